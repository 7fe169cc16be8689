/- Contracts of package round (layer 25): Close, over the map in whatever order. -/
import Derived.Test.YtcadmepfnafpmaaRndB
import Derived.Test.YtcadmepfnafpmaaTrmD
namespace Go.Proofs.Ytcadmepfnafpmaa.Rnd
open Go.ChangeShapes Go.WideShapes Go.ChangeAt Go.RowKit Go.Maps
open I64s (In64 Sl OwnL ListPost app_one)
set_option linter.unusedVariables false
set_option linter.unusedSimpArgs false
theorem vals64 {L : List Rg} (h : Ok L) : In64 (valsR L) := fun x hx => by
  obtain ⟨p, hp, rfl⟩ := List.mem_map.1 hx
  exact h.v64 p hp
theorem in64_perm {A M : List Int} (h : A.Perm M) (hm : In64 M) : In64 A := fun x hx => hm x (h.mem_iff.1 hx)
theorem own_room {W : World} {base cap : Nat} {ad : Option Addr} (h : W.ownsRow base 2 1 (.slice ad 0 cap) 0 []) : OwnL W base (.slice ad 0 cap) [] := h
theorem rclose_none {B g : Nat} {no : Int} (f : Int) (w : World) (h : RR w B g no none []) :
    Calls Try.prog 12 #[.pointer (some ⟨g, 0, none⟩), .int .i64 f] w fun e w' => e = .returned (.tuple #[.int .i64 (closeV f []), .bool (closeB [])]) ∧ Below w.heap.size w w' := by
  have c1 := h.c1
  have hb := h.blk
  have hl := fun W ty => Maps.len_nil (P := Try.prog) (w := W) (k := 3) (e := 2) Try.underlying53 ty
  obtain ⟨i0, hi, hz0, hz1, hz2⟩ := I64s.info_parts
  have hrg := fun W => run_range_nilMap (P := Try.prog) W 53 3 2 Try.underlying53
  have hnx : ∀ (W : World) (ty : TypeId), (Instr.next (.pointer (some ⟨W.heap.size, 0, none⟩)) false ty).run Try.prog (W.alloc (.mapIter none 0 #[] 0)) = _ := fun W ty => run_next_nilMap W ty 0 0 #[]
  clear h
  go_enter Try.func12, Try.ntmps12
  go_upto_region 4 with (at_make; refine wpList_make_own _ rfl _ _ 43 rfl w.heap.size 2 i0 (.int .i64 0) 1 Try.underlying43 hi hz0 hz1 .i64 .i64 _ 0 rfl rfl rfl (by rw [hz2]; omega) (by unfold maxLen; omega) (Nat.le_refl _) ?_; intro w1 hown1 hg1)
  have B1 : Below w.heap.size w w1 := (Below.refl _ _).grown hg1 (Nat.le_refl _) (fun j hj => by cases hj)
  have c2 : w1.cell? ⟨g, 1, none⟩ = some (.map none) := (hb.below B1).cell 1
  have S1 := (own_room hown1).sl.below ((Below.refl w1.heap.size w1).alloc (Nat.le_refl _) (.mapIter none 0 #[] 0))
  have HB := Lib.hid (B1.alloc B1.size (.mapIter none 0 #[] 0))
  have C := Lib.hid (Trm.tmid_any f _ _ [] _ S1 (by simp) (fun x hx => by cases hx))
  have HB2 : Hid (∀ V, Below (w1.alloc (.mapIter none 0 #[] 0)).heap.size (w1.alloc (.mapIter none 0 #[] 0)) V → Below w.heap.size w V) := Lib.hid (fun V h => HB.out.trans (h.mono HB.out.size))
  have hrg1 := hrg w1
  have hnx1 := hnx w1
  have HC := Lib.hid (close_is f [] (A := []) (List.Perm.refl _))
  rw [HC.out.1, HC.out.2] at C
  obtain ⟨v, hv⟩ : ∃ v, Hid (v = closeV f []) := ⟨_, Lib.hid rfl⟩
  obtain ⟨k, hk⟩ : ∃ k, Hid (k = closeB []) := ⟨_, Lib.hid rfl⟩
  rw [← hv.out, ← hk.out] at C
  have hsz := Lib.hid B1.size
  clear hown1 hg1 B1 S1 HB hb c1 hrg hnx HC
  go_wp2_with fail
  refine wp_loop_rounds 1 ?_
  rw [rounds_succ]
  go_wp2_with fail
  refine (C.out).mono ?_; rintro e w2 ⟨rfl, hB⟩
  have HBB := Lib.hid (HB2.out _ hB)
  clear hB HB2
  go_wp2_with fail
  go_ret2
  exact ⟨ret_mid hv.out hk.out, HBB.out⟩
theorem rclose_some {B g b : Nat} {no : Int} {L : List Rg} (f : Int) (w : World) (h : RR w B g no (some b) L) :
    Calls Try.prog 12 #[.pointer (some ⟨g, 0, none⟩), .int .i64 f] w fun e w' => e = .returned (.tuple #[.int .i64 (closeV f L), .bool (closeB L)]) ∧ Below w.heap.size w w' := by
  have c1 := h.c1
  have hb := h.blk
  have hlen := fun ty => h.map.len ty
  have hn64 := h.ok.len
  obtain ⟨b', D, e, hBb, hown, hm⟩ : ∃ b' D, some b = some b' ∧ B ≤ b' ∧ OM w b' L.length D ∧ Md D L := by
    rcases h.map with ⟨e, _⟩ | h
    · cases e
    · exact h
  cases e
  have HM := Lib.hid hm
  have HO := Lib.hid h.ok
  have hbl := hown.lt
  clear hm hBb h
  obtain ⟨n, hn⟩ : ∃ n, L.length = n := ⟨_, rfl⟩
  rw [hn] at hown hlen hn64
  have HSz : Hid (Maps.size D = n) := Lib.hid (by rw [HM.out.size_, hn])
  unfold OM at hown
  obtain ⟨i0, hi, hz0, hz1, hz2⟩ := I64s.info_parts
  go_enter Try.func12, Try.ntmps12
  go_upto_region 4 with (at_make; refine wpList_make_own _ rfl _ _ 43 rfl w.heap.size 2 i0 (.int .i64 0) 1 Try.underlying43 hi hz0 hz1 .i64 .i64 _ n rfl rfl rfl (by rw [hz2]; omega) (by unfold maxLen; omega) (Nat.le_refl _) ?_; intro w1 hown1 hg1)
  have B1 : Below w.heap.size w w1 := (Below.refl _ _).grown hg1 (Nat.le_refl _) (fun j hj => by cases hj)
  have c2 : w1.cell? ⟨g, 1, none⟩ = some (.map (some b)) := (hb.below B1).cell 1
  have hownM := World.ownsMap.kept hown hg1 (by simp)
  have O1 := own_room hown1
  have hob : ∀ k, (Value.slice (some ⟨w.heap.size, 0, none⟩) 0 n).ownBlock = some k → w.heap.size ≤ k ∧ k < w1.heap.size := fun k hk => O1.blk hk
  have HB1 := Lib.hid B1
  clear hown1 hg1 hb c1 B1
  generalize Value.slice (some ⟨w.heap.size, 0, none⟩) 0 n = v0 at *
  go_wp2_with (first
    | (at_range; refine wpList_range_own _ rfl _ 53 rfl 3 2 lawI Try.underlying53 _ b n _ rfl hownM ?_; intro w2 hrg2 hg2 hs2)
    | go_in)
  go_frame
  rw [HSz.out] at hrg2
  obtain ⟨r, hr⟩ : ∃ r, w1.heap.size = r := ⟨_, rfl⟩
  have hrb : b < w.heap.size := hbl
  have hwr : w.heap.size ≤ r := by rw [← hr]; exact HB1.out.size
  have O2 : OwnL w2 w.heap.size v0 [] := World.ownsRow.kept O1 hg2 (by cases hv : v0.ownBlock with | none => exact .inl rfl | some g => exact .inr (by simp))
  have B2 := Lib.hid (HB1.out.grown hg2 HB1.out.size (fun j hj => by cases hj))
  rw [hr] at hob hrg2 ⊢
  clear hs2 hg2 O1 hownM
  go_loopw [6, 8] (fun va' _ wr => ∃ (left : Lit → Bool) (cnt : Nat) (A : List Int) (va : Value), va = va' ∧ wr.ranges Try.prog 3 (plainElem Try.prog 2) b r n D left cnt ∧ Hid (OwnL wr w.heap.size va A) ∧ Hid (∀ k, va.ownBlock = some k → w.heap.size ≤ k ∧ k ≠ r) ∧ Hid (A.Perm (valsR (metR L (lf left)))) ∧ A.length + cnt ≤ n ∧ Hid (Below w.heap.size w wr)) (fun _ _ wr => wr.rangeLeft b r)
  case atStart => exact ⟨_, _, [], v0, rfl, hrg2, Lib.hid O2, Lib.hid (fun k hk => by have := hob k hk; exact ⟨this.1, by omega⟩), Lib.hid (by rw [met_start (left := lf (Maps.has D)) (fun x => HM.out.has_ x)]; exact List.Perm.refl _), by simp, B2⟩
  case round =>
    clear hrg2 O2 hob B2 c2 HB1
    obtain ⟨left, cnt, A, va, rfl, hrg, HOw, HNe, HPm, hcn, HB⟩ := hrel
    have hsz := HB.out.size
    go_wp2_with (first
      | (at_next; refine wpList_next_ranges_ii _ rfl _ rfl 3 2 .i64 .i64 lawI Try.underlying3 Try.underlying2 b r n _ _ _ rfl hrg ?_ ?_)
      | go_in)
    · intro hc0 hl0
      have HP : Hid (A.Perm (valsR L)) := Lib.hid (by have := HPm.out; rwa [met_end (left := lf left) (fun x => hl0 _)] at this)
      obtain ⟨ad, cp, rfl, -⟩ := Own.shape HOw.out
      have C := Lib.hid (Trm.tmid_any f _ _ A wr HOw.out.sl (by omega) (in64_perm HP.out (vals64 HO.out)))
      have HC := Lib.hid (close_is f L HP.out)
      rw [HC.out.1, HC.out.2] at C
      clear HP hl0 HPm HOw HNe HC
      obtain ⟨v, hv⟩ : ∃ v, Hid (v = closeV f L) := ⟨_, Lib.hid rfl⟩
      obtain ⟨k, hk⟩ : ∃ k, Hid (k = closeB L) := ⟨_, Lib.hid rfl⟩
      rw [← hv.out, ← hk.out] at C
      go_wp2_with fail
      refine (C.out).mono ?_; rintro e w3 ⟨rfl, hB⟩
      have HBB := Lib.hid (HB.out.trans (hB.mono HB.out.size))
      clear hB
      go_wp2_with fail
      go_ret2
      exact ⟨ret_mid hv.out hk.out, HBB.out⟩
    · intro x c w3 cnt3 hwx hwc hlx hat hrg3 hlt hg3 hs3 hen
      have hmem := HM.out.came hat
      have HP3 := Lib.hid (vals_step HO.out.nd HPm.out hmem hlx (lf_step left x))
      have hrl := hrg.lt
      have O3 : OwnL w3 w.heap.size va A := World.ownsRow.kept HOw.out hg3 (by
        cases hv : va.ownBlock with
        | none => exact .inl rfl
        | some k => exact .inr (fun e => (HNe.out k hv).2 (by cases e; rfl)))
      have B3 := Lib.hid (HB.out.grown hg3 hsz (fun j hj => by cases hj; exact hwr))
      have hsz3 : w.heap.size ≤ w3.heap.size := B3.out.size
      have hl3 : A.length < 1099511627776 := by omega
      have hlm := hrg.left_eq
      clear hmem hat hlx hwx HPm HOw hs3
      go_wp2_with (at_builtin; refine app_one rfl _ _ rfl w.heap.size _ _ rfl O3 c rfl hl3 hsz3 ?_; intro v' w4 hown4 hB4 hK4 hb4)
      have hrg4 := hrg3.kept (w' := w4) (row := va.ownBlock) ⟨hB4.os, hB4.tape, hB4.output, hB4.size, hK4⟩ (fun e => by have := (HNe.out b e.symm).1; omega) (fun e => (HNe.out r e.symm).2 rfl)
      go_roundw
      case rel => exact ⟨_, cnt3, A ++ [c], v', rfl, hrg4, Lib.hid hown4, Lib.hid (fun k hk => by
        rcases hb4 with e | e
        · exact HNe.out k (e ▸ hk)
        · have := e k hk
          have := hg3.size
          omega), HP3, by rw [List.length_append]; simp only [List.length_singleton]; omega, Lib.hid (B3.out.trans hB4)⟩
      case measure => rw [hrg4.left_eq, hlm]; exact hlt
theorem rclose_any {B g : Nat} {no : Int} {mb : Option Nat} {L : List Rg} (f : Int) (w : World) (h : RR w B g no mb L) :
    Calls Try.prog 12 #[.pointer (some ⟨g, 0, none⟩), .int .i64 f] w fun e w' => e = .returned (.tuple #[.int .i64 (closeV f L), .bool (closeB L)]) ∧ Below w.heap.size w w' := by
  cases mb with
  | some b => exact rclose_some f w h
  | none =>
    obtain rfl : L = [] := by
      rcases h.map with ⟨_, e⟩ | ⟨b, D, e, _⟩
      · exact e
      · cases e
    exact rclose_none f w h
end Go.Proofs.Ytcadmepfnafpmaa.Rnd
