/- The reader: Byte, Fixed. -/
import Derived.Test.YtocfamocemmihaaBufD
import Derived.StillTailTactics
import Derived.Laws.CopyOwn
import Derived.Deep.RegionHeld3
import Derived.Deep.RegionHeldLaw
namespace Go.Proofs.Ytocfamocemmihaa.Buf
open Go.ChangeShapes Go.WideShapes Go.ChangeAt Go.RowKit
open Go.Proofs.Ytocfamocemmihaa.Byt Go.Proofs.Ytocfamocemmihaa.Units Go.Proofs.Ytocfamocemmihaa.BufM
set_option linter.unusedVariables false

/-- What a call of the reader leaves that hands a value back. -/
def fixS (s : Int × List UInt8) (n : Int) : Int × List UInt8 := upd s (getF s.2 n).2
theorem fixN_zeros : ∀ (l : List UInt8) (k : Nat), fixN (l ++ List.replicate k 0) = fixN l
  | [], 0 => rfl
  | [], k + 1 => by
    show fixN (0 :: List.replicate k 0) = 0
    rw [fixN, show fixN (List.replicate k 0) = 0 from by have := fixN_zeros [] k; rwa [List.nil_append] at this]; rfl
  | b :: l, k => by rw [List.cons_append, fixN, fixN_zeros l k, fixN]
abbrev eight : List Value := [.int .u8 0, .int .u8 0, .int .u8 0, .int .u8 0, .int .u8 0, .int .u8 0, .int .u8 0, .int .u8 0]
theorem eight_splice (t : List UInt8) (h : t.length ≤ 8) : splice eight 0 (bvs t) = bvs (t ++ List.replicate (8 - t.length) 0) := by
  have e : eight = bvs (List.replicate 8 0) := rfl
  unfold splice
  rw [e, List.take_zero, List.nil_append, bvs_append, bvs_len]
  congr 1
  rw [Nat.zero_add]
  show (bvs (List.replicate 8 0)).drop t.length = _
  unfold bvs
  rw [← List.map_drop, List.drop_replicate]
theorem infoByte1 : (Try.prog.info? 5).map (·.size) = some 1 := by kernel_rfl
theorem infoEight : (Try.prog.info? 82).map (·.size) = some 8 := by kernel_rfl
theorem min8 {n : Nat} (h : n ≤ 8) : n = Nat.min n 8 := (Nat.min_eq_left h).symm
theorem RStep.more {a b c : World} {g : Nat} (h : RStep a b g) (k : Below a.heap.size b c) (hg : g < a.heap.size) : RStep a c g :=
  ⟨h.below.trans (k.mono (by omega)), fun i h1 h2 => by rw [k.block i h2, h.block i h1 h2]⟩
theorem RR.more {a b c : World} {g : Nat} {s : Int × List UInt8} (h : RR b g s) (k : Below a.heap.size b c) (hg : g < a.heap.size) : RR c g s := h.behind fun b hb => k.block b (by omega)
def SrcOk (w3 : World) (G : Nat) (ad : Option Addr) (cs : List Value) : Prop :=
  0 < cs.length → some (⟨G, 0, none⟩ : Addr) = some ⟨G, 0, none⟩ ∧ ∃ ad', ad = some ad' ∧ ∀ j v, cs[j]? = some v → w3.cell? (ad'.add j) = some v
set_option maxRecDepth 100000 in
set_option maxHeartbeats 400000 in
theorem rfixed_yes (g : Nat) (s : Int × List UInt8) (n : Nat) (w : World) (h : RR w g s) (h1 : 1 ≤ n) (h8 : n ≤ 8) :
    Calls Try.prog 55 #[.pointer (some ⟨g, 0, none⟩), .int .i64 (n : Int)] w (RPost w g (fixS s n) (.int .u64 (((getF s.2 n).1 : Nat) : Int))) := by
  have hlt := h.lt
  have CW := Lib.hid (isWidth_any (n : Int) w)
  rw [show isW (n : Int) = true from decide_eq_true (by omega)] at CW
  have hB0 : Below w.heap.size w (w.alloc (.cells eight.toArray 82)) := (Below.refl _ _).alloc (Nat.le_refl _) _
  have CT := Lib.hid (take_any g n s _ (h.kept hB0.drew) (by omega))
  have HP : Hid (∀ w3 w4 w5 t, (t = if s.2.length < n then [] else s.2.take n) → RR w3 g (upd s (if s.2.length < n then ([], 3) else (s.2.drop n, 0))) → RStep (w.alloc (.cells eight.toArray 82)).drew w3 g → Below w.heap.size w3 w4 → Below w4.heap.size w4 w5 →
      RPost w g (fixS s n) (.int .u64 (((getF s.2 n).1 : Nat) : Int)) (.returned (.int .u64 ((fixN t : Nat) : Int))) w5) := Lib.hid (fun w3 w4 w5 t ht hr hs hb4 hb5 => by
    have e : getF s.2 n = (fixN t, if s.2.length < n then ([], 3) else (s.2.drop n, 0)) := by
      unfold getF
      rw [if_neg (by omega)]
      by_cases hl : s.2.length < n
      · rw [if_pos (by omega), ht, if_pos hl, if_pos hl]; rfl
      · rw [if_neg (by omega), ht, if_neg hl, if_neg hl, Int.toNat_natCast]
    have hs3 : RStep w w3 g := (RStep.of_below hB0.drew (by omega)).trans hs
    have hb35 : Below w.heap.size w3 w5 := hb4.trans (hb5.mono (by have := hs3.below.size; have := hb4.size; omega))
    refine ⟨by rw [e], ?_, hs3.more hb35 hlt⟩
    unfold fixS
    rw [e]
    exact hr.more hb35 hlt)
  have HK : Hid (∀ w3, RStep (w.alloc (.cells eight.toArray 82)).drew w3 g → w3.heap[w.heap.size]? = some (.cells eight.toArray 82 (0, 0)) ∧ w.heap.size ≤ w3.heap.size) := Lib.hid (fun w3 hs => by
    have hsz := hs.below.size
    simp at hsz
    exact ⟨(hs.block _ hlt (by simp)).trans (Blk.new _ _ _), by omega⟩)
  have HC : Hid (∀ w3 ad cap t, (t = if s.2.length < n then [] else s.2.take n) → RdB w3 ad t → Lies ad cap g → t.length ≤ cap → RR w3 g (upd s (if s.2.length < n then ([], 3) else (s.2.drop n, 0))) → RStep (w.alloc (.cells eight.toArray 82)).drew w3 g →
      Hid (w3.heap[w.heap.size]? = some (.cells eight.toArray 82 (0, 0))) ∧ Hid ((bvs t).length = Nat.min t.length 8) ∧ Hid (SrcOk w3 w.heap.size ad (bvs t)) ∧ Hid (0 + (bvs t).length ≤ eight.length) ∧
      Hid (∀ w4 w5, Below w.heap.size w3 w4 → Below w4.heap.size w4 w5 → RPost w g (fixS s n) (.int .u64 (((getF s.2 n).1 : Nat) : Int)) (.returned (.int .u64 ((fixN t : Nat) : Int))) w5)) := Lib.hid (fun w3 ad cap t ht hrd hl hc hr hs => by
    have ht8 : t.length ≤ 8 := by
      rw [ht]; split
      · simp
      · rw [List.length_take]; omega
    refine ⟨Lib.hid (HK.out w3 hs).1, Lib.hid (by rw [bvs_len]; exact min8 ht8), Lib.hid (fun h0 => ⟨rfl, ?_⟩), Lib.hid (by rw [bvs_len]; simp; exact ht8), Lib.hid (fun w4 w5 h4 h5 => HP.out w3 w4 w5 t ht hr hs h4 h5)⟩
    rw [bvs_len] at h0
    rcases hl.2 with h' | ⟨b, off, e, _⟩
    · rcases hrd with h2 | ⟨b, off, e, _⟩
      · rw [h2] at h0; simp at h0
      · rw [h'] at e; cases e
    · exact ⟨_, e, hrd.cells _ e⟩)
  have HN : Hid (∀ t : List UInt8, t.length ≤ 8 → ∀ W, Calls Try.prog 60 #[.agg (splice eight 0 (bvs t)).toArray] W fun e w' => e = .returned (.int .u64 ((fixN t : Nat) : Int)) ∧ Below W.heap.size W w') := Lib.hid (fun t ht W => by
    rw [eight_splice t ht]
    have := number_nat (t ++ List.replicate (8 - t.length) 0) (by rw [List.length_append, List.length_replicate]; omega) W
    rw [fixN_zeros] at this
    exact this)
  have HSz : Hid (∀ t : List UInt8, t.length ≤ 8 → (splice eight 0 (bvs t)).toArray.size = 8) := Lib.hid (fun t ht => by
    rw [eight_splice t ht, List.size_toArray, bvs_len, List.length_append, List.length_replicate]; omega)
  clear h hB0
  go_enter Try.func55, Try.ntmps55
  go_wp2_with fail
  refine (CW.out).mono ?_; rintro e w' ⟨rfl, rfl⟩
  go_wp2_with fail
  refine wp_region_noPanic ?_
  go_region_held_law (fun W => True) (trivial) (first
    | (go_at_call 59; refine (CT.out).mono ?_; intro e w3 hh; obtain ⟨ad, cap, t, ht, rfl, hrd, hlies, hcap, hcm, hrr, hst⟩ := hh; obtain ⟨K1, K2, K3, K4, HQ⟩ := HC.out _ _ _ _ ht.out hrd hlies hcap hrr hst; clear hrd hrr hst)
    | (refine step_copy_splice rfl (.tmp 13) (.tmp 16) 25 25 (by rfl) 5 Try.underlying25 infoByte1 _ ad 8 8 t.length cap (by rfl) (by rfl) w.heap.size 0 eight 82 K1.out (bvs t) K2.out K3.out K4.out (bvs_oneCell _) w.heap.size w3 (Below.refl _ _) (Nat.le_refl _) ?_; intro w4 hb4 hB4))
  refine NoPanic.normal ?_
  have ht8 : t.length ≤ 8 := by have := K4.out; rw [bvs_len] at this; simpa using this
  have hsz := HSz.out t ht8
  have CN := Lib.hid (HN.out t ht8)
  have HQ := Lib.hid (fun w5 h5 => HQ.out w4 w5 hB4 h5)
  have hb4 := Lib.hid hb4.out
  clear HN HSz HP HK HC CT hB4 K1 K2 K3 K4 ht
  generalize (splice eight 0 (bvs t)).toArray = cs at *
  generalize fixN t = x at *
  have HS := Lib.hid (show (Try.prog.info? 82).map (·.size) = some cs.size by rw [hsz]; exact infoEight)
  clear hsz
  go_wp2_with (refine wpList_load_row rfl 82 _ rfl _ rfl _ cs _ _ hb4.out Try.underlying82 rfl HS.out ?_)
  refine (CN.out _).mono ?_; rintro e w5 ⟨rfl, hB5⟩
  have HQ := Lib.hid (HQ.out w5 hB5)
  go_wp2_with fail
  go_ret
  exact HQ.out
theorem rfixed_no (g : Nat) (s : Int × List UInt8) (n : Int) (w : World) (h : RR w g s) (hn : ¬ (1 ≤ n ∧ n ≤ 8)) :
    Calls Try.prog 55 #[.pointer (some ⟨g, 0, none⟩), .int .i64 n] w (RPost w g (fixS s n) (.int .u64 (((getF s.2 n).1 : Nat) : Int))) := by
  have CW := Lib.hid (isWidth_any n w)
  rw [show isW n = false from decide_eq_false hn] at CW
  have CF := Lib.hid (fail_any g s 1 w h)
  have e : getF s.2 n = (0, [], 1) := by unfold getF; rw [if_pos (by omega)]
  have HP : Hid (∀ w', RR w' g (if s.1 = 0 then 1 else s.1, []) → RStep w w' g → RPost w g (fixS s n) (.int .u64 (((getF s.2 n).1 : Nat) : Int)) (.returned (.int .u64 0)) w') := Lib.hid (fun w' h1 h2 => by
    refine ⟨by rw [e]; rfl, ?_, h2⟩
    unfold fixS
    rw [e]
    exact h1)
  clear h e hn
  go_enter Try.func55, Try.ntmps55
  go_wp2_with fail
  refine (CW.out).mono ?_; rintro e w' ⟨rfl, rfl⟩
  go_wp2_with fail
  refine (CF.out).mono ?_; intro en w1 hh; obtain ⟨rfl, H1, H2⟩ := hh.ret; clear hh
  go_wp2_with fail
  go_ret
  exact HP.out _ H1.out H2.out
theorem rfixed_any (g : Nat) (s : Int × List UInt8) (n : Int) (w : World) (h : RR w g s) :
    Calls Try.prog 55 #[.pointer (some ⟨g, 0, none⟩), .int .i64 n] w (RPost w g (fixS s n) (.int .u64 (((getF s.2 n).1 : Nat) : Int))) := by
  by_cases hn : 1 ≤ n ∧ n ≤ 8
  · obtain ⟨k, rfl⟩ := Int.eq_ofNat_of_zero_le (show 0 ≤ n by omega)
    exact rfixed_yes g s k w h (by omega) (by omega)
  · exact rfixed_no g s n w h hn
theorem rfixed_nil (n : Int) (w : World) : Calls Try.prog 55 #[.pointer none, .int .i64 n] w fun e w' => e = .returned (.int .u64 0) ∧ w = w' := by
  go_enter Try.func55, Try.ntmps55
  go_wp2_with fail
  go_ret
  exact ⟨rfl, rfl⟩
theorem getF_byte (l : List UInt8) : (getF l 1).1 < 256 := by
  unfold getF
  rw [if_neg (by omega)]
  split
  · simp
  · have := fixN_lt (l.take (1 : Int).toNat)
    have h1 : (l.take (1 : Int).toNat).length ≤ 1 := by rw [List.length_take]; omega
    have := Nat.pow_le_pow_right (show 0 < 256 by omega) h1
    simp only; omega
end Go.Proofs.Ytocfamocemmihaa.Buf
