/- Contracts of package cut (layer 18): Safe of both, Strength; the law's own 'few'. -/
import Derived.Test.YtbgigimapogkcaaDoorCutR
import Derived.Test.YtbgigimapogkcaaDoorCutP
namespace Go.Proofs.YtbgigimapogkcaaDoor.Cut
open Go.RowKit Go.Shelf Go.ChangeShapes Go.WideShapes Go.ChangeAt
open Nodes (Tabs mem ret_int ret_bool)
open Grf (Pr RdG gval gbox)
open Rea (GP wholeB wholeP Wd wval OkW)
set_option linter.unusedVariables false
set_option linter.unusedSimpArgs false
set_option maxRecDepth 100000
set_option maxHeartbeats 1000000 in
theorem safe_any (p : Option Addr) (n : Nat) (L : List Pr) (f : Int) (hf : -9223372036854775808 ≤ f) (w : World) (h : GP w p n L) (hT : Tabs w) :
    Calls Tryd.prog 16 #[.pointer p, .int .i64 f] w fun e w' => e = .returned (.bool (safeB n L f)) ∧ Below w.heap.size w w' := by
  have C := Lib.hid (first_any p n L f hf w h hT)
  have HS : Hid (safeB n L f = ((firstO n L f).isNone && (decide (0 ≤ f) && decide (f ≤ 3)))) := Lib.hid rfl
  clear h hT
  generalize safeB n L f = b at *
  generalize firstO n L f = o at *
  by_cases h0 : 0 ≤ f
  · by_cases h3 : f ≤ 3
    · rw [decide_eq_true h0, decide_eq_true h3] at HS
      cases o with
      | none =>
        go_enter Tryd.func16, Tryd.ntmps16
        go_wp2_with fail
        refine (C.out).mono ?_; rintro e w' ⟨rfl, hB⟩
        go_wp2_with fail
        go_ret
        exact ⟨ret_bool (by rw [HS.out]; rfl), hB⟩
      | some s =>
        go_enter Tryd.func16, Tryd.ntmps16
        go_wp2_with fail
        refine (C.out).mono ?_; rintro e w' ⟨rfl, hB⟩
        go_wp2_with fail
        go_ret
        exact ⟨ret_bool (by rw [HS.out]; rfl), hB⟩
    · rw [decide_eq_false h3] at HS
      cases o with
      | none =>
        go_enter Tryd.func16, Tryd.ntmps16
        go_wp2_with fail
        refine (C.out).mono ?_; rintro e w' ⟨rfl, hB⟩
        go_wp2_with fail
        go_ret
        exact ⟨ret_bool (by rw [HS.out]; simp <;> omega), hB⟩
      | some s =>
        go_enter Tryd.func16, Tryd.ntmps16
        go_wp2_with fail
        refine (C.out).mono ?_; rintro e w' ⟨rfl, hB⟩
        go_wp2_with fail
        go_ret
        exact ⟨ret_bool (by rw [HS.out]; rfl), hB⟩
  · rw [decide_eq_false h0] at HS
    cases o with
    | none =>
      go_enter Tryd.func16, Tryd.ntmps16
      go_wp2_with fail
      refine (C.out).mono ?_; rintro e w' ⟨rfl, hB⟩
      go_wp2_with fail
      go_ret
      exact ⟨ret_bool (by rw [HS.out]; simp <;> omega), hB⟩
    | some s =>
      go_enter Tryd.func16, Tryd.ntmps16
      go_wp2_with fail
      refine (C.out).mono ?_; rintro e w' ⟨rfl, hB⟩
      go_wp2_with fail
      go_ret
      exact ⟨ret_bool (by rw [HS.out]; rfl), hB⟩
set_option maxHeartbeats 1000000 in
theorem strength_any (p : Option Addr) (n : Nat) (L : List Pr) (w : World) (h : GP w p n L) (hT : Tabs w) :
    Calls Tryd.prog 17 #[.pointer p] w fun e w' => e = .returned (.int .i64 (strP n L)) ∧ Below w.heap.size w w' := by
  have hn := h.le
  have C := Lib.hid (first_any p n L 3 (by omega) w h hT)
  have HS : Hid (strP n L = match firstO n L 3 with | none => 3 | some s => (cnt s : Int) - 1) := Lib.hid rfl
  have HF := Lib.hid (fun s => firstO_some (f := 3) (L := L) (s := s) hn)
  clear h hT
  generalize strP n L = v at *
  generalize firstO n L 3 = o at *
  cases o with
  | none =>
    clear HF
    go_enter Tryd.func17, Tryd.ntmps17
    go_wp2_with fail
    refine (C.out).mono ?_; rintro e w' ⟨rfl, hB⟩
    go_wp2_with fail
    go_ret
    exact ⟨ret_int (by rw [HS.out]), hB⟩
  | some s =>
    have hs := HF.out s rfl
    have hs64 : s < 18446744073709551616 := by have := pow64 hn; have := e64; omega
    have CC := Lib.hid (fun W => Nodes.count_any s hs64 W)
    have hcl : (mem s).length ≤ 64 := Nodes.mem_le s
    have HC : Hid ((mem s).length = cnt s) := Lib.hid rfl
    clear HF hs
    generalize (mem s).length = c at *
    go_enter Tryd.func17, Tryd.ntmps17
    go_wp2_with fail
    refine (C.out).mono ?_; rintro e w' ⟨rfl, hB⟩
    go_wp2_with fail
    refine (CC.out _).mono ?_; rintro e w' ⟨rfl, rfl⟩
    go_wp2_with fail
    go_ret
    exact ⟨ret_int (by rw [HS.out, ← HC.out]), hB⟩
set_option maxHeartbeats 2000000 in
theorem rsafe_any (n : Nat) (hn : n ≤ 12) (ad : Option Addr) (len cap : Nat) (L : List Pr) (f : Int) (h1 : -9223372036854775808 ≤ f) (w : World) (hlen : L.length = len) (hm : len < 9223372036854775807) (hr : RdG w ad L) :
    Calls Tryd.prog 15 #[gval (n : Int) (.slice ad len cap), .int .i64 f] w fun e w' => e = .returned (.bool (safeB n L f)) ∧ Below w.heap.size w w' := by
  obtain ⟨w0, hw0⟩ : ∃ w0, Hid (w0 = w.alloc (.cells #[.int .i64 (n : Int), .slice ad len cap] 27)) := ⟨_, Lib.hid rfl⟩
  obtain ⟨hB0, hs0, hb0⟩ := gbox w w0 (n : Int) _ hw0.out
  have C := Lib.hid (rfirst_any n hn ad len cap L f h1 w0 hlen hm (hr.below hB0))
  have HB0 := Lib.hid hB0
  have c0 : w0.cell? ⟨w.heap.size, 0, none⟩ = some (.int .i64 (n : Int)) := hb0.cell 0
  have c1 : w0.cell? ⟨w.heap.size, 1, none⟩ = some (.slice ad len cap) := hb0.cell 1
  have HS : Hid (safeB n L f = ((firstO n L f).isNone && (decide (0 ≤ f) && decide (f ≤ 3)))) := Lib.hid rfl
  have HF := Lib.hid (fun (h0 : 0 ≤ f) (h3 : f ≤ 3) (h : (n : Int) ≤ f) => few_cut (L := L) (show n ≤ 64 by omega) h0 h3 h)
  clear hr hB0 hs0 hb0 hlen
  generalize safeB n L f = b at *
  generalize firstO n L f = o at *
  unfold gval at *
  go_enter Tryd.func15, Tryd.ntmps15
  go_upto_region 1 with fail
  rw [← hw0.out]
  by_cases h0 : 0 ≤ f
  · by_cases h3 : f ≤ 3
    · by_cases hnf : (n : Int) ≤ f
      · have hno := HF.out h0 h3 hnf
        have HN : Hid (b = false) := Lib.hid (by
          rw [HS.out]
          cases o with
          | none => exact absurd rfl hno
          | some s => rfl)
        clear HS HF hno
        go_wp2_with fail
        go_ret
        exact ⟨ret_bool HN.out.symm, HB0.out⟩
      · have hlt : f < (n : Int) := by omega
        rw [decide_eq_true h0, decide_eq_true h3] at HS
        clear HF
        cases o with
        | none =>
          go_wp2_with fail
          refine (C.out).mono ?_; rintro e w' ⟨rfl, hB⟩
          go_wp2_with fail
          go_ret
          exact ⟨ret_bool (by rw [HS.out]; rfl), HB0.out.trans (hB.mono HB0.out.size)⟩
        | some s =>
          go_wp2_with fail
          refine (C.out).mono ?_; rintro e w' ⟨rfl, hB⟩
          go_wp2_with fail
          go_ret
          exact ⟨ret_bool (by rw [HS.out]; rfl), HB0.out.trans (hB.mono HB0.out.size)⟩
    · have HN : Hid (b = false) := Lib.hid (by rw [HS.out, decide_eq_false h3]; simp)
      have h3' : 3 < f := by omega
      clear HS HF
      go_wp2_with fail
      go_ret
      exact ⟨ret_bool HN.out.symm, HB0.out⟩
  · have HN : Hid (b = false) := Lib.hid (by rw [HS.out, decide_eq_false h0]; simp)
    have h0' : f < 0 := by omega
    clear HS HF
    go_wp2_with fail
    go_ret
    exact ⟨ret_bool HN.out.symm, HB0.out⟩
/-- A world of seven nodes at most. -/
def fewW (a : Wd) : Wd := { a with num := a.num.tmod 8 }
theorem few_ok {w : World} {a : Wd} (h : OkW w a) : OkW w (fewW a) := ⟨by
  have := h.num
  have h1 : a.num.tmod 8 < 8 := Int.tmod_lt_of_pos _ (by decide)
  have h2 : -8 < a.num.tmod 8 := by
    have := Int.lt_tmod_of_pos a.num (show (0 : Int) < 8 by decide)
    omega
  show -9223372036854775808 ≤ a.num.tmod 8 ∧ a.num.tmod 8 ≤ 9223372036854775807
  omega, h.links⟩
theorem few_cell (w : World) {o o' : Obj} (h : True) : ((w.alloc o).alloc o').heap[w.heap.size + 1]? = some o' := by
  have := World.alloc_heap_new (w.alloc o) o'
  rwa [World.size_alloc] at this
theorem few_any (a : Wd) (w : World) :
    Calls Tryd.prog 9 #[wval a] w fun e w' => e = .returned (wval (fewW a)) ∧ Below w.heap.size w w' := by
  unfold wval fewW
  go_enter Tryd.func9, Tryd.ntmps9
  go_wp2_with fail
  refine bodyPost_ret (v := .agg #[.int .i64 (a.num.tmod 8), .slice a.ad a.len a.cap]) (results_cell_row rfl _ _ (w.heap.size + 1) 24 _ (0, 0) _ rfl (few_cell _ trivial) Tryd.underlying24 rfl (by kernel_rfl)) rfl ⟨rfl, ((Below.refl _ w).alloc (Nat.le_refl _) _).alloc (by simp) _⟩
end Go.Proofs.YtbgigimapogkcaaDoor.Cut
