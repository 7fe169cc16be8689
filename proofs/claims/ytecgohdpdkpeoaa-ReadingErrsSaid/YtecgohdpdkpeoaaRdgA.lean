/- Contracts of package reading (layer 23) and of the document's own answers for it: good times, estimates. -/
import Derived.Test.YtecgohdpdkpeoaaHopA
import Derived.Test.YtecgohdpdkpeoaaRatA
import Derived.BigQuiet
import Derived.Deep.Slices
import Derived.Deep.WholeRow
import Derived.Below
namespace Go.Proofs.Ytecgohdpdkpeoaa.Rdg
open Go.ChangeShapes Go.WideShapes Go.ChangeAt Go.RowKit Go.Deep
set_option linter.unusedVariables false
theorem dret_b {a b : Bool} (h : a = b) : Ending.returned (.bool a) = .returned (.bool b) := by rw [h]
/-- A good time. -/
def tmB (x : Int) : Bool := decide (0 ≤ x ∧ x ≤ 1152921504606846976)
theorem tm_yes {x : Int} (h : tmB x = true) : 0 ≤ x ∧ x ≤ 1152921504606846976 := of_decide_eq_true h
def estB (v s n : Int) : Bool := tmB v && tmB s && tmB n && decide (s ≤ n) && tmB (v + (n - s) / 2)
def estV (v s n : Int) : Int := if estB v s n = true then v + (n - s) / 2 else 0
theorem dtime_any (x : Int) (w : World) :
    Calls Try.prog 19 #[.int .i64 x] w fun e w' => e = .returned (.bool (tmB x)) ∧ w = w' := by
  go_enter Try.func19, Try.ntmps19
  go_wp2
  all_goals
    go_ret
    exact ⟨dret_b (by unfold tmB; rw [Bool.eq_iff_iff]; simp only [decide_eq_true_iff, Bool.false_eq_true, false_iff]; omega), rfl⟩
theorem bad_any (x : Int) (w : World) :
    Calls Try.prog 28 #[.int .i64 x] w fun e w' => e = .returned (.bool (!tmB x)) ∧ w = w' := by
  go_enter Try.func28, Try.ntmps28
  go_wp2
  all_goals
    go_ret
    exact ⟨dret_b (by unfold tmB; rw [← decide_not]; first | (symm; apply decide_eq_true; omega) | (rw [← Bool.decide_or]; apply decide_eq_decide.2; omega)), rfl⟩
/-- What is found. -/
def IdxPost (l : List Int) (w : World) (e : Ending) (w' : World) : Prop := ∃ j : Int, e = .returned (.int .i64 j) ∧ decide (0 ≤ j) = !(l.all tmB) ∧ w = w'
theorem all_snoc {l : List Int} {k : Nat} (hk : k ≤ l.length) (h : ∀ j, j < k → tmB (l.getD j 0) = true) (hl : k = l.length) : l.all tmB = true := by
  rw [List.all_eq_true]
  intro x hx
  obtain ⟨i, hi, rfl⟩ := List.getElem_of_mem hx
  have := h i (by omega)
  simpa [List.getD, hi] using this
theorem all_no {l : List Int} {k : Nat} (hk : k < l.length) (h : tmB (l.getD k 0) = false) : l.all tmB = false := by
  rw [List.all_eq_false]
  refine ⟨l[k], List.getElem_mem hk, ?_⟩
  have e : l.getD k 0 = l[k] := by simp [List.getD, hk]
  rw [← e, h]
  simp
set_option maxRecDepth 100000 in
set_option maxHeartbeats 1000000 in
theorem idx_any (b : Nat) (l : List Int) (hl : l.length ≤ 8) (w : World) (hc : ∀ i, i < l.length → w.cell? ⟨b, i, none⟩ = some (.int .i64 (l.getD i 0))) :
    Calls Try.prog 30 #[.slice (some ⟨b, 0, none⟩) l.length l.length, .func (.func 28) #[] #[]] w (IdxPost l w) := by
  have HC := Lib.hid hc
  clear hc
  go_enter Try.func30, Try.ntmps30
  go_wp2_with fail
  go_loopw [5, 8] (fun _ i wr => ∃ k : Nat, k ≤ l.length ∧ i = .int .i64 k ∧ Hid (wr = w) ∧ Hid (∀ j, j < k → tmB (l.getD j 0) = true)) (fun _ i _ => l.length - (intOf i).toNat)
  case atStart => exact ⟨0, Nat.zero_le _, rfl, Lib.hid rfl, Lib.hid (fun j h => absurd h (by omega))⟩
  case round =>
    obtain ⟨k, hk, rfl, hw, HK⟩ := hrel
    obtain rfl := hw.out
    clear hw
    by_cases hlt : k < l.length
    · have h0 := HC.out k hlt
      have CB := Lib.hid (fun W => bad_any (l.getD k 0) W)
      have HN : Hid (tmB (l.getD k 0) = false → l.all tmB = false) := Lib.hid (fun h => all_no hlt h)
      have HY : Hid (tmB (l.getD k 0) = true → ∀ j, j < k + 1 → tmB (l.getD j 0) = true) := Lib.hid (fun h j hj => by rcases Nat.lt_succ_iff_lt_or_eq.1 hj with h1 | rfl; exact HK.out j h1; exact h)
      generalize l.getD k 0 = x at *
      clear HC
      cases hx : tmB x with
      | true =>
        rw [hx] at CB
        have HY1 := Lib.hid (HY.out hx)
        clear HY HN HK hx
        go_wp2_with fail
        refine (CB.out _).mono ?_; rintro e w' ⟨rfl, rfl⟩
        go_wp2_with fail
        go_roundw
        case rel => exact ⟨k + 1, by omega, by go_num, by first | exact Lib.hid rfl | exact Lib.hid trivial, HY1⟩
        case measure => simp [intOf]; omega
      | false =>
        rw [hx] at CB
        have HN1 : Hid (IdxPost l wr (.returned (.int .i64 k)) wr) := Lib.hid ⟨k, rfl, by rw [HN.out hx]; simp, rfl⟩
        clear HY HN HK hx
        go_wp2_with fail
        refine (CB.out _).mono ?_; rintro e w' ⟨rfl, rfl⟩
        go_wp2_with fail
        go_ret
        exact HN1.out
    · have HN1 : Hid (IdxPost l wr (.returned (.int .i64 (-1))) wr) := Lib.hid ⟨-1, rfl, by rw [all_snoc hk HK.out (by omega)]; rfl, rfl⟩
      clear HC HK
      go_wp2_with fail
      go_ret
      exact HN1.out
set_option maxRecDepth 100000 in
theorem has_any (b : Nat) (l : List Int) (hl : l.length ≤ 8) (w : World) (hc : ∀ i, i < l.length → w.cell? ⟨b, i, none⟩ = some (.int .i64 (l.getD i 0))) :
    Calls Try.prog 27 #[.slice (some ⟨b, 0, none⟩) l.length l.length, .func (.func 28) #[] #[]] w fun e w' => e = .returned (.bool (!(l.all tmB))) ∧ w = w' := by
  have CI := Lib.hid (idx_any b l hl w hc)
  clear hc
  generalize l.length = n at *
  go_enter Try.func27, Try.ntmps27
  go_wp2_with fail
  refine (CI.out).mono ?_; rintro e w' ⟨j, rfl, hj, rfl⟩
  go_wp2_with fail
  go_ret
  exact ⟨rfl, rfl⟩
set_option maxRecDepth 100000 in
theorem good_cells (b : Nat) (l : List Int) (hl : l.length ≤ 8) (w : World) (hc : ∀ i, i < l.length → w.cell? ⟨b, i, none⟩ = some (.int .i64 (l.getD i 0))) :
    Calls Try.prog 18 #[.slice (some ⟨b, 0, none⟩) l.length l.length] w fun e w' => e = .returned (.bool (l.all tmB)) ∧ w = w' := by
  have CI := Lib.hid (has_any b l hl w hc)
  clear hc
  generalize l.length = n at *
  generalize l.all tmB = q at *
  go_enter Try.func18, Try.ntmps18
  go_wp2_with fail
  refine (CI.out).mono ?_; rintro e w' ⟨rfl, rfl⟩
  go_wp2_with fail
  go_ret
  exact ⟨dret_b (by simp), rfl⟩
/-- Of one, of two, of three. -/
theorem good1_any (x : Int) (b : Nat) (w : World) (t : TypeId) (hb0 : w.heap.size = b) :
    Calls Try.prog 18 #[.slice (some ⟨b, 0, none⟩) 1 1] (w.alloc (.cells #[.int .i64 x] t)) fun e w' => e = .returned (.bool (tmB x)) ∧ w.alloc (.cells #[.int .i64 x] t) = w' := by
  subst hb0
  have h := good_cells w.heap.size [x] (by simp) (w.alloc (.cells #[.int .i64 x] t)) (fun i hi => by
    have hb := heap_alloc_last w (.cells #[.int .i64 x] t)
    rw [cell_of_row _ _ i _ _ _ hb]
    match i, hi with
    | 0, _ => rfl)
  simpa using h
theorem good2_any (x y : Int) (b : Nat) (w : World) (t : TypeId) (hb0 : w.heap.size = b) :
    Calls Try.prog 18 #[.slice (some ⟨b, 0, none⟩) 2 2] (w.alloc (.cells #[.int .i64 x, .int .i64 y] t)) fun e w' => e = .returned (.bool (tmB x && tmB y)) ∧ w.alloc (.cells #[.int .i64 x, .int .i64 y] t) = w' := by
  subst hb0
  have h := good_cells w.heap.size [x, y] (by simp) (w.alloc (.cells #[.int .i64 x, .int .i64 y] t)) (fun i hi => by
    have hb := heap_alloc_last w (.cells #[.int .i64 x, .int .i64 y] t)
    rw [cell_of_row _ _ i _ _ _ hb]
    match i, hi with
    | 0, _ => rfl
    | 1, _ => rfl)
  simpa using h
theorem good3_any (x y z : Int) (b : Nat) (w : World) (t : TypeId) (hb0 : w.heap.size = b) :
    Calls Try.prog 18 #[.slice (some ⟨b, 0, none⟩) 3 3] (w.alloc (.cells #[.int .i64 x, .int .i64 y, .int .i64 z] t)) fun e w' => e = .returned (.bool (tmB x && (tmB y && tmB z))) ∧ w.alloc (.cells #[.int .i64 x, .int .i64 y, .int .i64 z] t) = w' := by
  subst hb0
  have h := good_cells w.heap.size [x, y, z] (by simp) (w.alloc (.cells #[.int .i64 x, .int .i64 y, .int .i64 z] t)) (fun i hi => by
    have hb := heap_alloc_last w (.cells #[.int .i64 x, .int .i64 y, .int .i64 z] t)
    rw [cell_of_row _ _ i _ _ _ hb]
    match i, hi with
    | 0, _ => rfl
    | 1, _ => rfl
    | 2, _ => rfl)
  simpa using h
theorem est_no {v s n : Int} (h : ¬ (tmB v = true ∧ tmB s = true ∧ tmB n = true ∧ s ≤ n ∧ tmB (v + (n - s) / 2) = true)) : estB v s n = false ∧ estV v s n = 0 := by
  have e : estB v s n = false := by
    cases h1 : estB v s n with
    | false => rfl
    | true =>
      unfold estB at h1
      simp only [Bool.and_eq_true, decide_eq_true_iff] at h1
      exact absurd ⟨h1.1.1.1.1, h1.1.1.1.2, h1.1.1.2, h1.1.2, h1.2⟩ h
  exact ⟨e, by unfold estV; rw [e]; rfl⟩
theorem est_yes {v s n : Int} (h1 : tmB v = true) (h2 : tmB s = true) (h3 : tmB n = true) (h4 : s ≤ n) (h5 : tmB (v + (n - s) / 2) = true) : estB v s n = true ∧ estV v s n = v + (n - s) / 2 := by
  have e : estB v s n = true := by unfold estB; rw [h1, h2, h3, h5, decide_eq_true h4]; rfl
  exact ⟨e, by unfold estV; rw [e]; rfl⟩
set_option maxRecDepth 100000 in
set_option maxHeartbeats 1000000 in
theorem est_any (v s n : Int) (w : World) :
    Calls Try.prog 8 #[.int .i64 v, .int .i64 s, .int .i64 n] w fun e w' => e = .returned (.tuple #[.int .i64 (estV v s n), .bool (estB v s n)]) ∧ Below w.heap.size w w' := by
  have CG := Lib.hid (fun b W t hb => good3_any v s n b W t hb)
  have CO := Lib.hid (fun b W t hb => good1_any (v + (n - s) / 2) b W t hb)
  have B1 := Lib.hid ((Below.refl w.heap.size w).alloc (Nat.le_refl _) (.cells #[.int .i64 v, .int .i64 s, .int .i64 n] 43))
  cases hg : (tmB v && (tmB s && tmB n)) with
  | false =>
    obtain ⟨eb, ev⟩ := est_no (v := v) (s := s) (n := n) (by rintro ⟨h1, h2, h3, -⟩; rw [h1, h2, h3] at hg; exact absurd hg (by simp))
    rw [eb, ev]
    rw [hg] at CG
    clear hg eb ev
    go_enter Try.func8, Try.ntmps8
    go_wp2_with fail
    refine (CG.out _ _ _ rfl).mono ?_; rintro e w' ⟨rfl, rfl⟩
    go_wp2_with fail
    go_ret2
    exact ⟨rfl, B1.out⟩
  | true =>
    rw [hg] at CG
    simp only [Bool.and_eq_true] at hg
    obtain ⟨h1, h2, h3⟩ := hg
    obtain ⟨v0, v1⟩ := tm_yes h1
    obtain ⟨s0, s1⟩ := tm_yes h2
    obtain ⟨n0, n1⟩ := tm_yes h3
    by_cases hlt : n < s
    · obtain ⟨eb, ev⟩ := est_no (v := v) (s := s) (n := n) (by rintro ⟨-, -, -, h, -⟩; omega)
      rw [eb, ev]
      clear eb ev h1 h2 h3
      go_enter Try.func8, Try.ntmps8
      go_wp2_with fail
      refine (CG.out _ _ _ rfl).mono ?_; rintro e w' ⟨rfl, rfl⟩
      go_wp2_with fail
      go_ret2
      exact ⟨rfl, B1.out⟩
    · have hle : s ≤ n := by omega
      have hd := Int.tdiv_eq_ediv_of_nonneg (a := n - s) (b := 2) (by omega)
      cases h5 : tmB (v + (n - s) / 2) with
      | false =>
        obtain ⟨eb, ev⟩ := est_no (v := v) (s := s) (n := n) (by rintro ⟨-, -, -, -, h⟩; rw [h] at h5; exact absurd h5 (by simp))
        rw [eb, ev]
        rw [h5] at CO
        clear eb ev h1 h2 h3 h5
        go_enter Try.func8, Try.ntmps8
        go_wp2_with fail
        refine (CG.out _ _ _ rfl).mono ?_; rintro e w' ⟨rfl, rfl⟩
        go_wp2_with fail
        refine (CO.out _ _ _ (by simp)).mono ?_; rintro e w' ⟨rfl, rfl⟩
        go_wp2_with fail
        go_ret2
        exact ⟨rfl, B1.out.alloc B1.out.size _⟩
      | true =>
        obtain ⟨eb, ev⟩ := est_yes h1 h2 h3 hle h5
        rw [eb, ev]
        rw [h5] at CO
        clear eb ev h1 h2 h3 h5
        go_enter Try.func8, Try.ntmps8
        go_wp2_with fail
        refine (CG.out _ _ _ rfl).mono ?_; rintro e w' ⟨rfl, rfl⟩
        go_wp2_with fail
        refine (CO.out _ _ _ (by simp)).mono ?_; rintro e w' ⟨rfl, rfl⟩
        go_wp2_with fail
        go_ret2
        exact ⟨rfl, B1.out.alloc B1.out.size _⟩
end Go.Proofs.Ytecgohdpdkpeoaa.Rdg
