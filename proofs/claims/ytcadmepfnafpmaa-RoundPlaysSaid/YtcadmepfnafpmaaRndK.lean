/- The chapter's example of layer 25. -/
import Derived.Test.YtcadmepfnafpmaaRndC
import Derived.Test.YtcadmepfnafpmaaRndN
import Derived.Test.YtcadmepfnafpmaaRndW
namespace Go.Proofs.Ytcadmepfnafpmaa.Rnd
open Go.ChangeShapes Go.WideShapes Go.ChangeAt Go.RowKit
set_option linter.unusedVariables false
set_option linter.unusedSimpArgs false
def exD : List Int := [5, 7, -100, 6]
def exR : List Rg := [(0, 5), (1, 7), (2, -100), (3, 6)]
theorem ex_step : ∀ k, k < 4 → noteL (exR.take k) (k : Int) (exD.getD k 0) = exR.take (k + 1) ∧ noteE (exR.take k) (k : Int) = 0 := by decide
theorem ex_d64 : ∀ k, k < 4 → -100 ≤ exD.getD k 0 ∧ exD.getD k 0 ≤ 7 := by decide
theorem ex_close : closeV 1 exR = 5 ∧ closeB exR = true := by
  refine ⟨?_, by decide⟩
  have ht : Trm.trm 1 (valsR exR) = [5, 6] := by unfold Trm.trm; rw [← Trm.ins_srt]; decide
  unfold closeV Trm.midV
  rw [ht]
  decide
theorem ex_fir : firV 2000 1000 = 2 ∧ firV 2001 1000 = 3 := by unfold firV; omega
/-- What lay there ahead of the round's map lies apart from it. -/
def Apart (b0 : Nat) (mb : Option Nat) : Prop := ∀ b, mb = some b → b0 < b
/-- A round of the call's own, beside a block b0. -/
structure Ex (w wr : World) (g b0 : Nat) (no : Int) (L : List Rg) (o : Obj) : Prop where
  rr : ∃ mb, RR wr w.heap.size g no mb L ∧ Apart b0 mb
  ne : b0 ≠ g
  lt : b0 < wr.heap.size
  obj : wr.heap[b0]? = some o
  below : Below w.heap.size w wr
theorem Ex.note {w W W' : World} {g b0 : Nat} {no : Int} {L L' : List Rg} {o : Obj} {mb : Option Nat} {er : Int} {e : Ending} (h : Ex w W g b0 no L o) (hrr : RR W w.heap.size g no mb L) (hap : Apart b0 mb) (hp : NotePost W w.heap.size g no mb L' er e W') :
    e = .returned (.int .i64 er) ∧ Ex w W' g b0 no L' o := by
  obtain ⟨mb', rfl, hr, hmb, hs⟩ := hp
  refine ⟨rfl, ⟨mb', hr, fun b e => ?_⟩, h.ne, Nat.lt_of_lt_of_le h.lt hs.size, ?_, ?_⟩
  · rcases hmb with rfl | ⟨b', rfl, hb'⟩
    · exact hap b e
    · cases e
      exact Nat.lt_of_lt_of_le h.lt hb'
  · rw [hs.block b0 h.lt (fun hf => by
      rcases hf with hf | hf
      · exact h.ne hf
      · exact absurd (hap b0 hf) (Nat.lt_irrefl _))]
    exact h.obj
  · exact h.below.trans (hs.below (fun k hk => by
      rcases hk with rfl | hk
      · exact hrr.ge
      · exact (hrr.map.lt hk).2) h.below.size)
set_option maxRecDepth 100000 in
set_option maxHeartbeats 1000000 in
theorem works25_any (w : World) : Calls Try.prog 18 #[] w fun e w' => e = .returned (.bool true) ∧ Below w.heap.size w w' := by
  have C1 := Lib.hid (rnew_any 3 w)
  have CN : Hid (∀ W mb L x d g, in64 x → in64 d → RR W w.heap.size g 3 mb L → w.heap.size ≤ W.heap.size → Calls Try.prog 9 #[.pointer (some ⟨g, 0, none⟩), .int .i64 x, .int .i64 d] W (NotePost W w.heap.size g 3 mb (noteL L x d) (noteE L x))) := Lib.hid (fun W mb L x d g hx hd h hB => rnote_any hx hd W h hB)
  have CC := Lib.hid (fun W mb g (h : RR W w.heap.size g 3 mb exR) => rclose_any 1 W h)
  have C3 := Lib.hid (fun W mb g (h : RR W w.heap.size g 3 mb exR) => rno_any W h)
  have C4 := Lib.hid (fun W mb g (h : RR W w.heap.size g 3 mb exR) => rlen_any W h)
  have C5 := Lib.hid (fun W => rfirst_any 2000 1000 W (by omega) (by omega))
  have C6 := Lib.hid (fun W => rfirst_any 2001 1000 W (by omega) (by omega))
  rw [ex_close.1, ex_close.2] at CC
  rw [ex_fir.1] at C5
  rw [ex_fir.2] at C6
  unfold NewPost at C1
  go_enter Try.func18, Try.ntmps18
  go_wp2_with fail
  refine (C1.out).mono ?_; rintro e w1 ⟨g, rfl, hr, hB⟩
  have HX : Hid (Ex w (w1.alloc (.cells #[.int .i64 5, .int .i64 7, .int .i64 (-100), .int .i64 6] 2)) g w1.heap.size 3 [] (.cells #[.int .i64 5, .int .i64 7, .int .i64 (-100), .int .i64 6] 2 (0, 0))) := Lib.hid
    ⟨⟨none, hr.below ((Below.refl _ _).alloc (Nat.le_refl _) _), fun b e => by cases e⟩, by have := hr.lt; omega, by simp, (MapKept.heap_alloc w1 _).1, hB.alloc hB.size _⟩
  clear hr hB C1
  go_wp2_with fail
  obtain ⟨b0, hb0⟩ : ∃ b0, w1.heap.size = b0 := ⟨_, rfl⟩
  rw [hb0] at HX ⊢
  go_loopw [2, 3, 9] (fun _ _ i wr => ∃ k : Nat, k ≤ 4 ∧ i = .int .i64 k ∧ Hid (Ex w wr g b0 3 (exR.take k) (.cells #[.int .i64 5, .int .i64 7, .int .i64 (-100), .int .i64 6] 2 (0, 0)))) (fun _ _ i _ => 4 - (intOf i).toNat)
  case atStart => exact ⟨0, by omega, rfl, HX⟩
  case round =>
    clear HX
    obtain ⟨k, hk, rfl, HX⟩ := hrel
    by_cases hlt : k < 4
    · obtain ⟨mb, hrr, hap⟩ := HX.out.rr
      have hc : wr.cell? ⟨b0, 0 + k, none⟩ = some (.int .i64 (exD.getD k 0)) := by
        rw [Rw.Blk.cell HX.out.obj]
        have : k = 0 ∨ k = 1 ∨ k = 2 ∨ k = 3 := by omega
        rcases this with rfl | rfl | rfl | rfl <;> rfl
      have hc' : wr.cell? ⟨b0, k, none⟩ = some (.int .i64 (exD.getD k 0)) := by rwa [Nat.zero_add] at hc
      have hd := ex_d64 k hlt
      have hs := ex_step k hlt
      have CK := Lib.hid (CN.out wr mb _ (k : Int) (exD.getD k 0) g (by unfold in64; omega) (by unfold in64; omega) hrr HX.out.below.size)
      rw [hs.1, hs.2] at CK
      have HP : Hid (∀ e W', NotePost wr w.heap.size g 3 mb (exR.take (k + 1)) 0 e W' → e = .returned (.int .i64 0) ∧ Ex w W' g b0 3 (exR.take (k + 1)) (.cells #[.int .i64 5, .int .i64 7, .int .i64 (-100), .int .i64 6] 2 (0, 0))) := Lib.hid (fun e W' hp => HX.out.note hrr hap hp)
      clear hrr hap hs hd HX
      generalize exD.getD k 0 = d at *
      go_wp2_with fail
      refine (CK.out).mono ?_; intro e w2 hq
      obtain ⟨rfl, hx⟩ := HP.out e w2 hq
      have HX2 := Lib.hid hx
      clear hq hx HP CK hc hc'
      go_wp2_with fail
      go_roundw
      case rel => exact ⟨k + 1, by omega, by go_num, HX2⟩
      case measure => simp [intOf]; omega
    · obtain rfl : k = 4 := by omega
      obtain ⟨mb, hrr, hap⟩ := HX.out.rr
      have hrr : RR wr w.heap.size g 3 mb exR := hrr
      have HB := Lib.hid HX.out.below
      clear HX hap
      go_wp2_with fail
      refine (CC.out wr mb g hrr).mono ?_; rintro e w2 ⟨rfl, hB⟩
      have HR := Lib.hid (hrr.below hB)
      have HB2 := Lib.hid (HB.out.trans (hB.mono HB.out.size))
      clear hB hrr HB
      go_wp2_with fail
      refine (C3.out w2 mb g HR.out).mono ?_; rintro e w' ⟨rfl, rfl⟩
      go_wp2_with fail
      refine (C4.out w2 mb g HR.out).mono ?_; rintro e w' ⟨rfl, rfl⟩
      go_wp2_with fail
      refine (C5.out w2).mono ?_; rintro e w' ⟨rfl, rfl⟩
      go_wp2_with fail
      refine (C6.out w2).mono ?_; rintro e w' ⟨rfl, rfl⟩
      go_wp2_with fail
      go_ret
      exact ⟨rfl, HB2.out⟩
end Go.Proofs.Ytcadmepfnafpmaa.Rnd
