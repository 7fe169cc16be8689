/- Contracts for layer table (7): how a table lies in memory; sort.Search over one place, slices.BinarySearchFunc over keys that rise. -/
import Derived.Test.YtolcidilnmjlmaaTblM
import Derived.Test.YtolcidilnmjlmaaRowB
import Derived.Test.YtolcidilnmjlmaaKeyF
namespace Go.Proofs.Ytolcidilnmjlmaa.Tbl
open Go.ChangeShapes Go.WideShapes Go.ChangeAt Go.RowKit Go.Sort
open Go.Proofs.Ytolcidilnmjlmaa.Key Go.Proofs.Ytolcidilnmjlmaa.Rw
set_option linter.unusedVariables false
theorem gr_drewN {w W : World} (h : Gr w W) (n : Nat) : Gr w (W.drewN n) := h.trans ⟨n, #[], by rw [grow_empty]⟩
def b01 (b : Bool) : Int := if b then 0 else 1
theorem search1 (gf : Nat) (cb : Array Value) (b : Bool) (w : World) (eg : ∀ args w, (callFunc gf args).run Try.prog w = .ok (.enter gf args) w)
    (hf : ∀ W, Gr w W → Calls Try.prog gf (#[.int .i64 0] ++ cb) W fun e w' => e = .returned (.bool b) ∧ Gr w w') :
    Calls Try.prog 57 #[.int .i64 1, .func (.func gf) #[] cb] w fun e w' => e = .returned (.int .i64 (b01 b)) ∧ Gr w w' := by
  have HF := Lib.hid hf
  clear hf
  cases b with
  | true =>
    go_enter Try.func57, Try.ntmps57
    go_wp2
    go_loopw [5, 6] (fun i j wr => Gr w wr ∧ i = .int .i64 0 ∧ (j = .int .i64 1 ∨ j = .int .i64 0)) (fun i j _ => (intOf j).toNat)
    case atStart => exact ⟨Gr.refl _, rfl, .inl rfl⟩
    case round =>
      obtain ⟨hG, rfl, rfl | rfl⟩ := hrel
      · have C := HF.out wr hG
        go_wp2_with (go_at_fn gf; refine C.mono ?_; rintro e w' ⟨rfl, hG'⟩)
        go_roundw
        case rel => exact ⟨hG', rfl, .inr rfl⟩
        case measure => simp [intOf]
      · go_wp2
        go_ret
        exact ⟨rfl, hG⟩
  | false =>
    go_enter Try.func57, Try.ntmps57
    go_wp2
    go_loopw [5, 6] (fun i j wr => Gr w wr ∧ j = .int .i64 1 ∧ (i = .int .i64 0 ∨ i = .int .i64 1)) (fun i j _ => (2 - intOf i).toNat)
    case atStart => exact ⟨Gr.refl _, rfl, .inl rfl⟩
    case round =>
      obtain ⟨hG, rfl, rfl | rfl⟩ := hrel
      · have C := HF.out wr hG
        go_wp2_with (go_at_fn gf; refine C.mono ?_; rintro e w' ⟨rfl, hG'⟩)
        go_roundw
        case rel => exact ⟨hG', rfl, .inr rfl⟩
        case measure => simp [intOf]
      · go_wp2
        go_ret
        exact ⟨rfl, hG⟩
/-- Where a key stands, or would stand. -/
theorem bsearch_any (ad : Option Addr) (n cap : Nat) (ks : List Ky) (k : Ky) (w : World) (hn : ks.length = n) (hm : n ≤ 1000000) (hr : RdK w ad ks) (hs : Str ks) :
    Calls Try.prog 60 #[.slice ad n cap, kval k, .func (.func 61) #[] #[]] w fun e w' => (∃ b, e = .returned (.tuple #[.int .i64 (pos ks k : Nat), .bool b])) ∧ Gr w w' := by
  have HL := Lib.hid hn
  have HR := Lib.hid hr
  obtain ⟨w0, hw0⟩ : ∃ w0, Hid (w0 = w.alloc (.cells #[.int .i64 k.1, .int .i64 k.2.1, .int .u32 k.2.2] 34)) := ⟨_, Lib.hid rfl⟩
  have HG0 : Hid (Gr w w0) := Lib.hid (by rw [hw0.out]; exact (Gr.refl w).alloc _)
  have hlt0 : w.heap.size < w0.heap.size := by rw [hw0.out, World.size_alloc]; omega
  have HX : Hid (Rw.At enc w0 w.heap.size 0 k) := Lib.hid (by rw [hw0.out]; exact Rw.At.box w k _ rfl)
  have CC := Lib.hid (fun y W => compare_any y k W)
  have HP : Hid (∀ i, i ≤ n → (∀ t, t < i → ltK (ks.getD t default) k = true) → (∀ t, i ≤ t → t < n → ltK (ks.getD t default) k = false) → pos ks k = i) := Lib.hid (fun i hi h1 h2 => pos_is (by omega) h1 (fun t h3 h4 => h2 t h3 (by omega)))
  have HC := Lib.hid (fun y => cmp_lt y k)
  have HS1 : Hid (∀ m t, m ≤ t → t < n → ltK (ks.getD m default) k = false → ltK (ks.getD t default) k = false) := Lib.hid (fun m t h1 h2 h3 => by
    rcases Nat.eq_or_lt_of_le h1 with e | h
    · rw [← e]; exact h3
    · cases hv : ltK (ks.getD t default) k with
      | false => rfl
      | true => rw [lt_trans (str_lt hs h (by omega)) hv] at h3; cases h3)
  have HS2 : Hid (∀ m t, t ≤ m → m < n → ltK (ks.getD m default) k = true → ltK (ks.getD t default) k = true) := Lib.hid (fun m t h1 h2 h3 => by
    rcases Nat.eq_or_lt_of_le h1 with e | h
    · rw [e]; exact h3
    · exact lt_trans (str_lt hs h (by omega)) h3)
  generalize pos ks k = r at *
  clear hr hn hs
  obtain ⟨p, q, s⟩ := k
  unfold kval at *
  simp only at CC HX
  go_enter Try.func60, Try.ntmps60
  go_wp2
  rw [← hw0.out]
  go_loopw [9, 10] (fun i j wr => ∃ lo hi : Nat, i = .int .i64 lo ∧ j = .int .i64 hi ∧ lo ≤ hi ∧ hi ≤ n ∧ Hid (Gr w0 wr) ∧ Hid (∀ t, t < lo → ltK (ks.getD t default) (p, q, s) = true) ∧ Hid (∀ t, hi ≤ t → t < n → ltK (ks.getD t default) (p, q, s) = false)) (fun i j _ => (intOf j - intOf i).toNat)
  case atStart => exact ⟨0, n, rfl, rfl, Nat.zero_le _, Nat.le_refl _, Lib.hid (Gr.refl _), Lib.hid (fun t h => by omega), Lib.hid (fun t h1 h2 => by omega)⟩
  case round =>
    obtain ⟨lo, hi, rfl, rfl, hle, hin, hG, h1, h2⟩ := hrel
    have HBw : Hid (Below w.heap.size w wr) := Lib.hid (HG0.out.below.trans (hG.out.below.mono (by omega)))
    by_cases hlt : lo < hi
    · obtain ⟨b, off, rfl, hbw, hc⟩ := (HR.out.below HBw.out).at_ (i := (lo + hi) / 2) (by rw [HL.out]; omega)
      have CCm := Lib.hid (CC.out (ks.getD ((lo + hi) / 2) default))
      have HCm := Lib.hid (HC.out (ks.getD ((lo + hi) / 2) default))
      have HS1m := Lib.hid (HS1.out ((lo + hi) / 2))
      have HS2m := Lib.hid (HS2.out ((lo + hi) / 2))
      generalize ks.getD ((lo + hi) / 2) default = y at *
      have HC4 : Hid (∀ W, Gr wr W → (W.cell? ⟨b, off + (lo + hi) / 2 * 3, none⟩ = some (.int .i64 y.1) ∧ W.cell? ⟨b, off + (lo + hi) / 2 * 3 + 1, none⟩ = some (.int .i64 y.2.1) ∧ W.cell? ⟨b, off + (lo + hi) / 2 * 3 + 2, none⟩ = some (.int .u32 y.2.2)) ∧
            (W.cell? ⟨w.heap.size, 0, none⟩ = some (.int .i64 p) ∧ W.cell? ⟨w.heap.size, 1, none⟩ = some (.int .i64 q) ∧ W.cell? ⟨w.heap.size, 2, none⟩ = some (.int .u32 s))) := Lib.hid (fun W hW => by
        have h3 := at3 (hc.below hW.below hbw)
        have h4 := at3 (HX.out.below (hG.out.trans hW).below hlt0)
        simp only [Nat.zero_add] at h4
        exact ⟨h3, h4⟩)
      obtain ⟨a, b', c⟩ := y
      simp only at CCm HC4
      have hm1 : ((lo : Int) + (hi : Int)) / 2 = (((lo + hi) / 2 : Nat) : Int) := by omega
      have hm2 : (((lo + hi) / 2 : Nat) : Int) < (n : Int) := by omega
      have hm3 : lo ≤ (lo + hi) / 2 ∧ (lo + hi) / 2 < hi := by omega
      clear hc
      generalize (lo + hi) / 2 = m at *
      obtain ⟨⟨c0, c1, c2⟩, d0, d1, d2⟩ := HC4.out wr (Gr.refl wr)
      generalize cmpK (a, b', c) (p, q, s) = z at *
      cases hz : decide (z < 0) with
      | true =>
        have h1' : Hid (∀ t, t < m + 1 → ltK (ks.getD t default) (p, q, s) = true) := Lib.hid (fun t ht => HS2m.out t (by omega) (by omega) (by rw [← HCm.out]; exact hz))
        have hz' : z < 0 := of_decide_eq_true hz
        clear hz HCm HS1m HS2m
        go_wp2_with fail
        refine wp_region_noPanic ?_
        go_region_held_law (fun W => Gr wr W ∧ (W.cell? ⟨b, off + m * 3, none⟩ = some (.int .i64 a) ∧ W.cell? ⟨b, off + m * 3 + 1, none⟩ = some (.int .i64 b') ∧ W.cell? ⟨b, off + m * 3 + 2, none⟩ = some (.int .u32 c)) ∧
            (W.cell? ⟨w.heap.size, 0, none⟩ = some (.int .i64 p) ∧ W.cell? ⟨w.heap.size, 1, none⟩ = some (.int .i64 q) ∧ W.cell? ⟨w.heap.size, 2, none⟩ = some (.int .u32 s))) ((refine ⟨?_, HC4.out _ ?_⟩ <;> (repeat' (first | assumption | exact Gr.refl _ | exact (‹Gr wr _ ∧ _›).1 | refine Gr.drew ?_ | (refine Gr.trans ?_ (by assumption))))))
          ((go_at_call 61; refine (CCm.out _).mono ?_; rintro e w7 ⟨rfl, hG7⟩))
        rename_i hHeld
        obtain ⟨hG8, -⟩ := hHeld
        have HG8 := Lib.hid (hG.out.trans hG8)
        clear hG8 c0 c1 c2 d0 d1 d2
        refine NoPanic.normal ?_
        go_wp2_with fail
        go_roundw
        case rel => exact ⟨m + 1, hi, by go_num, rfl, by omega, hin, HG8, h1', h2⟩
        case measure => simp [intOf]; omega
      | false =>
        have h2' : Hid (∀ t, m ≤ t → t < n → ltK (ks.getD t default) (p, q, s) = false) := Lib.hid (fun t h3 h4 => HS1m.out t h3 h4 (by rw [← HCm.out]; exact hz))
        have hz' : ¬ z < 0 := of_decide_eq_false hz
        clear hz HCm HS1m HS2m
        go_wp2_with fail
        refine wp_region_noPanic ?_
        go_region_held_law (fun W => Gr wr W ∧ (W.cell? ⟨b, off + m * 3, none⟩ = some (.int .i64 a) ∧ W.cell? ⟨b, off + m * 3 + 1, none⟩ = some (.int .i64 b') ∧ W.cell? ⟨b, off + m * 3 + 2, none⟩ = some (.int .u32 c)) ∧
            (W.cell? ⟨w.heap.size, 0, none⟩ = some (.int .i64 p) ∧ W.cell? ⟨w.heap.size, 1, none⟩ = some (.int .i64 q) ∧ W.cell? ⟨w.heap.size, 2, none⟩ = some (.int .u32 s))) ((refine ⟨?_, HC4.out _ ?_⟩ <;> (repeat' (first | assumption | exact Gr.refl _ | exact (‹Gr wr _ ∧ _›).1 | refine Gr.drew ?_ | (refine Gr.trans ?_ (by assumption))))))
          ((go_at_call 61; refine (CCm.out _).mono ?_; rintro e w7 ⟨rfl, hG7⟩))
        rename_i hHeld
        obtain ⟨hG8, -⟩ := hHeld
        have HG8 := Lib.hid (hG.out.trans hG8)
        clear hG8 c0 c1 c2 d0 d1 d2
        refine NoPanic.normal ?_
        go_wp2_with fail
        go_roundw
        case rel => exact ⟨lo, m, rfl, by go_num, by omega, by omega, HG8, h1, h2'⟩
        case measure => simp [intOf]; omega
    · obtain rfl : hi = lo := by omega
      have HV := HP.out hi hin h1.out h2.out
      clear h1 h2 HP HS1 HS2 HC hle
      subst HV
      by_cases hlt2 : r < n
      · obtain ⟨b, off, rfl, hbw, hc⟩ := (HR.out.below HBw.out).at_ (i := r) (by rw [HL.out]; omega)
        have CCm := Lib.hid (CC.out (ks.getD r default))
        generalize ks.getD r default = y at *
        have HC4 : Hid (∀ W, Gr wr W → (W.cell? ⟨b, off + r * 3, none⟩ = some (.int .i64 y.1) ∧ W.cell? ⟨b, off + r * 3 + 1, none⟩ = some (.int .i64 y.2.1) ∧ W.cell? ⟨b, off + r * 3 + 2, none⟩ = some (.int .u32 y.2.2)) ∧
              (W.cell? ⟨w.heap.size, 0, none⟩ = some (.int .i64 p) ∧ W.cell? ⟨w.heap.size, 1, none⟩ = some (.int .i64 q) ∧ W.cell? ⟨w.heap.size, 2, none⟩ = some (.int .u32 s))) := Lib.hid (fun W hW => by
          have h3 := at3 (hc.below hW.below hbw)
          have h4 := at3 (HX.out.below (hG.out.trans hW).below hlt0)
          simp only [Nat.zero_add] at h4
          exact ⟨h3, h4⟩)
        obtain ⟨a, b', c⟩ := y
        simp only at CCm HC4
        have hm2 : (r : Int) < (n : Int) := by omega
        have hm3 : decide ((r : Int) < (n : Int)) = true := decide_eq_true hm2
        clear hc
        obtain ⟨⟨c0, c1, c2⟩, d0, d1, d2⟩ := HC4.out wr (Gr.refl wr)
        generalize cmpK (a, b', c) (p, q, s) = z at *
        go_wp2_with fail
        refine wp_region_noPanic ?_
        go_region_held_law (fun W => Gr wr W ∧ (W.cell? ⟨b, off + r * 3, none⟩ = some (.int .i64 a) ∧ W.cell? ⟨b, off + r * 3 + 1, none⟩ = some (.int .i64 b') ∧ W.cell? ⟨b, off + r * 3 + 2, none⟩ = some (.int .u32 c)) ∧
            (W.cell? ⟨w.heap.size, 0, none⟩ = some (.int .i64 p) ∧ W.cell? ⟨w.heap.size, 1, none⟩ = some (.int .i64 q) ∧ W.cell? ⟨w.heap.size, 2, none⟩ = some (.int .u32 s))) ((refine ⟨?_, HC4.out _ ?_⟩ <;> (repeat' (first | assumption | exact Gr.refl _ | exact (‹Gr wr _ ∧ _›).1 | refine Gr.drew ?_ | (refine Gr.trans ?_ (by assumption))))))
          ((go_at_call 61; refine (CCm.out _).mono ?_; rintro e w7 ⟨rfl, hG7⟩))
        rename_i hHeld
        obtain ⟨hG8, -⟩ := hHeld
        have HG8 := Lib.hid (HG0.out.trans (hG.out.trans hG8))
        clear hG8 c0 c1 c2 d0 d1 d2
        refine NoPanic.normal ?_
        go_wp2_with fail
        go_ret2
        exact ⟨⟨_, rfl⟩, HG8.out⟩
      · have hm3 : decide ((r : Int) < (n : Int)) = false := decide_eq_false (by omega)
        have HG8 : Hid (Gr w wr) := Lib.hid (HG0.out.trans hG.out)
        go_wp2_with fail
        go_quiet (fail)
        go_wp2_with fail
        go_ret2
        exact ⟨⟨_, rfl⟩, gr_drewN HG8.out _⟩
end Go.Proofs.Ytolcidilnmjlmaa.Tbl
