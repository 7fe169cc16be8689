/- Contracts of package key (layer 6): Compare, Less, Good, Of, Array, Rising. -/
import Derived.Test.YtpfnjippdjhfgaaDoorKeyD
import Derived.Deep.Cut
namespace Go.Proofs.YtpfnjippdjhfgaaDoor.Key
open Go.ChangeShapes Go.WideShapes Go.ChangeAt Go.RowKit Go.Sort
set_option linter.unusedVariables false
theorem compare_any (x y : Ky) (w : World) :
    Calls Tryd.prog 10 #[kval x, kval y] w fun e w' => e = .returned (.int .i64 (cmpK x y)) ∧ Gr w w' := by
  obtain ⟨a, b, c⟩ := x
  obtain ⟨d, e, f⟩ := y
  obtain ⟨w2, hw2⟩ : ∃ w2, Hid (w2 = (w.alloc (.cells #[.int .i64 a, .int .i64 b, .int .u32 c] 24)).alloc (.cells #[.int .i64 d, .int .i64 e, .int .u32 f] 24)) := ⟨_, Lib.hid rfl⟩
  have HG : Hid (Gr w w2) := Lib.hid (by rw [hw2.out]; exact ((Gr.refl w).alloc _).alloc _)
  have HC : Hid (∀ W, Gr w2 W → (W.cell? ⟨w.heap.size, 0, none⟩ = some (.int .i64 a) ∧ W.cell? ⟨w.heap.size, 1, none⟩ = some (.int .i64 b) ∧ W.cell? ⟨w.heap.size, 2, none⟩ = some (.int .u32 c)) ∧
      (W.cell? ⟨w.heap.size + 1, 0, none⟩ = some (.int .i64 d) ∧ W.cell? ⟨w.heap.size + 1, 1, none⟩ = some (.int .i64 e) ∧ W.cell? ⟨w.heap.size + 1, 2, none⟩ = some (.int .u32 f))) := Lib.hid (fun W hW => by
    have hB := hW.below
    have hs : w2.heap.size = w.heap.size + 2 := by rw [hw2.out, World.size_alloc, World.size_alloc]
    have h1 : Rw.At enc w2 w.heap.size 0 (a, b, c) := by
      rw [hw2.out]
      exact (Rw.At.box (enc := enc) (e := 24) w (a, b, c) _ rfl).below (box_below _ _) (by rw [World.size_alloc]; omega)
    have h2 : Rw.At enc w2 (w.heap.size + 1) 0 (d, e, f) := by
      rw [hw2.out]
      have := Rw.At.box (enc := enc) (e := 24) (w.alloc (.cells #[.int .i64 a, .int .i64 b, .int .u32 c] 24)) (d, e, f) _ rfl
      rw [World.size_alloc] at this
      exact this
    have h3 := at3 (h1.below hB (by omega))
    have h4 := at3 (h2.below hB (by omega))
    simp only [Nat.zero_add] at h3 h4
    exact ⟨h3, h4⟩)
  have C1 := Lib.hid (fun W => cmp64 a d W)
  have C2 := Lib.hid (fun W => cmpint b e W)
  have C3 := Lib.hid (fun W => cmp32 c f W)
  have HV := Lib.hid (show cmpK (a, b, c) (d, e, f) = orI (cI a d) (cI b e) (cI c f) from rfl)
  rw [HV.out]
  clear HV
  generalize cI a d = r1 at *
  generalize cI b e = r2 at *
  generalize cI c f = r3 at *
  have C4 : Hid (∀ g W, W.cell? ⟨g, 0, none⟩ = some (.int .i64 r1) → W.cell? ⟨g, 1, none⟩ = some (.int .i64 r2) → W.cell? ⟨g, 2, none⟩ = some (.int .i64 r3) → Calls Tryd.prog 25 #[.slice (some ⟨g, 0, none⟩) 3 3] W fun e w' => e = .returned (.int .i64 (orI r1 r2 r3)) ∧ W = w') := Lib.hid (fun g W h1 h2 h3 => orI_any r1 r2 r3 g W h1 h2 h3)
  generalize orI r1 r2 r3 = r at *
  unfold kval
  go_enter Tryd.func10, Tryd.ntmps10
  go_upto_region 1 with fail
  rw [← hw2.out]
  obtain ⟨⟨c0, c1, c2⟩, d0, d1, d2⟩ := HC.out w2 (Gr.refl w2)
  refine wp_region_noPanic ?_
  go_region_held_law (fun W => Gr w2 W ∧ (W.cell? ⟨w.heap.size, 0, none⟩ = some (.int .i64 a) ∧ W.cell? ⟨w.heap.size, 1, none⟩ = some (.int .i64 b) ∧ W.cell? ⟨w.heap.size, 2, none⟩ = some (.int .u32 c)) ∧
      (W.cell? ⟨w.heap.size + 1, 0, none⟩ = some (.int .i64 d) ∧ W.cell? ⟨w.heap.size + 1, 1, none⟩ = some (.int .i64 e) ∧ W.cell? ⟨w.heap.size + 1, 2, none⟩ = some (.int .u32 f))) ((refine ⟨?_, HC.out _ ?_⟩ <;> (repeat' (first | assumption | exact Gr.refl _ | exact (‹Gr w2 _ ∧ _›).1 | refine Gr.drew ?_ | refine Gr.alloc ?_ _))))
    (first
      | (go_at_call 26; refine (C1.out _).mono ?_; rintro e w' ⟨rfl, rfl⟩)
      | (go_at_call 27; refine (C2.out _).mono ?_; rintro e w' ⟨rfl, rfl⟩)
      | (go_at_call 28; refine (C3.out _).mono ?_; rintro e w' ⟨rfl, rfl⟩)
      | (go_at_call 25; refine (C4.out _ _ (by simp) (by simp) (by simp)).mono ?_; rintro e w' ⟨rfl, rfl⟩))
  rename_i hHeld
  obtain ⟨hG2, -⟩ := hHeld
  refine NoPanic.normal ?_
  go_wp2_with fail
  go_ret
  exact ⟨rfl, HG.out.trans hG2⟩
theorem less_any (x y : Ky) (w : World) :
    Calls Tryd.prog 11 #[kval x, kval y] w fun e w' => e = .returned (.bool (ltK x y)) ∧ Below w.heap.size w w' := by
  have HV := Lib.hid (cmp_lt x y)
  have C := Lib.hid (fun W => compare_any x y W)
  generalize ltK x y = r at *
  generalize cmpK x y = z at *
  obtain ⟨a, b, c⟩ := x
  obtain ⟨d, e, f⟩ := y
  have hB : Hid (Below w.heap.size w ((w.alloc (.cells #[.int .i64 a, .int .i64 b, .int .u32 c] 24)).alloc (.cells #[.int .i64 d, .int .i64 e, .int .u32 f] 24))) := Lib.hid ((box_below _ _).alloc (by simp) _)
  unfold kval at *
  go_enter Tryd.func11, Tryd.ntmps11
  go_wp2_with fail
  refine (C.out _).mono ?_; rintro e w' ⟨rfl, hG⟩
  have HB2 := Lib.hid (hB.out.trans (hG.below.mono hB.out.size))
  clear hG hB
  go_wp2_with fail
  go_ret
  exact ⟨by rw [HV.out]; rfl, HB2.out⟩
theorem isnode_any (x : Int) (w : World) : Calls Tryd.prog 29 #[.int .i64 x] w fun e w' => e = .returned (.bool (decide (0 ≤ x ∧ x < 64))) ∧ w = w' := by
  by_cases h1 : 0 ≤ x
  · have hv : decide (0 ≤ x ∧ x < 64) = decide (x < 64) := by simp [h1]
    rw [hv]
    go_enter Tryd.func29, Tryd.ntmps29
    go_wp2_with fail
    go_ret
    exact ⟨rfl, rfl⟩
  · have hv : decide (0 ≤ x ∧ x < 64) = false := by simp [h1]
    rw [hv]
    go_enter Tryd.func29, Tryd.ntmps29
    go_wp2_with fail
    go_ret
    exact ⟨rfl, rfl⟩
theorem good_any (x : Ky) (w : World) :
    Calls Tryd.prog 12 #[kval x] w fun e w' => e = .returned (.bool (goodK x)) ∧ Below w.heap.size w w' := by
  obtain ⟨a, b, c⟩ := x
  have hB : Below w.heap.size w (w.alloc (.cells #[.int .i64 a, .int .i64 b, .int .u32 c] 24)) := box_below _ _
  have C := Lib.hid (fun W => isnode_any b W)
  unfold kval
  by_cases h1 : 0 ≤ a
  · by_cases h2 : a ≤ 1152921504606846976
    · have hv : goodK (a, b, c) = decide (0 ≤ b ∧ b < 64) := by simp [goodK, h1, h2]
      rw [hv]
      generalize decide (0 ≤ b ∧ b < 64) = r at *
      go_enter Tryd.func12, Tryd.ntmps12
      go_wp2_with fail
      refine (C.out _).mono ?_; rintro e w' ⟨rfl, rfl⟩
      go_wp2_with fail
      go_ret
      exact ⟨rfl, hB⟩
    · have hv : goodK (a, b, c) = false := by simp [goodK, h1, h2]
      rw [hv]
      go_enter Tryd.func12, Tryd.ntmps12
      go_wp2_with fail
      go_ret
      exact ⟨rfl, hB⟩
  · have hv : goodK (a, b, c) = false := by simp [goodK, h1]
    rw [hv]
    go_enter Tryd.func12, Tryd.ntmps12
    go_wp2_with fail
    go_ret
    exact ⟨rfl, hB⟩
def aval (a b c : Int) : Value := .agg #[.int .i64 a, .int .i64 b, .int .i64 c]
theorem array_any (x : Ky) (hx : ok x) (w : World) :
    Calls Tryd.prog 16 #[kval x] w fun e w' => e = .returned (aval x.1 x.2.1 x.2.2) ∧ Below w.heap.size w w' := by
  obtain ⟨a, b, c⟩ := x
  obtain ⟨h1, h2, h3, h4⟩ := hx
  simp only at h1 h2 h3 h4
  have hw : IntKind.i64.wrap c = c := by rw [IntKind.wrap_i64]; omega
  have hB : Hid (Below w.heap.size w ((w.alloc (.cells #[.int .i64 a, .int .i64 b, .int .u32 c] 24)).alloc (.cells #[.int .i64 a, .int .i64 b, .int .i64 c] 29))) := Lib.hid ((box_below _ _).alloc (by simp) _)
  unfold kval
  go_enter Tryd.func16, Tryd.ntmps16
  go_wp2_with fail
  go_returns
  exact ⟨rfl, hB.out⟩
def okA (b c : Int) : Bool := decide (0 ≤ b ∧ b < 64) && decide (0 ≤ c ∧ c ≤ 4294967295)
def ofA (a b c : Int) : Ky := if okA b c then (a, b, c) else (0, 0, 0)
theorem of_any (a b c : Int) (w : World) :
    Calls Tryd.prog 15 #[aval a b c] w fun e w' => e = .returned (.tuple #[kval (ofA a b c), .bool (okA b c)]) ∧ Below w.heap.size w w' := by
  have C := Lib.hid (fun W => isnode_any b W)
  have hB : ∀ u v s, Hid (Below w.heap.size w ((w.alloc (.cells #[.int .i64 a, .int .i64 b, .int .i64 c] 29)).alloc (.cells #[.int .i64 u, .int .i64 v, .int .u32 s] 24))) := fun u v s => Lib.hid ((box_below _ _).alloc (by simp) _)
  have hB1 := hB a b c
  have hB2 := hB 0 0 0
  clear hB
  cases hn : decide (0 ≤ b ∧ b < 64) with
  | true =>
    rw [hn] at C
    by_cases h1 : 0 ≤ c
    · by_cases h2 : c ≤ 4294967295
      · have hv : okA b c = true := by unfold okA; rw [hn]; simp [h1, h2]
        have hw : IntKind.u32.wrap c = c := by rw [IntKind.wrap_u32]; omega
        have hf : ofA a b c = (a, b, c) := by unfold ofA; rw [hv]; rfl
        rw [hf, hv]
        clear hv hf hn
        unfold kval aval
        go_enter Tryd.func15, Tryd.ntmps15
        go_wp2_with fail
        refine (C.out _).mono ?_; rintro e w' ⟨rfl, rfl⟩
        go_wp2_with fail
        go_returns
        exact ⟨rfl, hB1.out⟩
      · have hv : okA b c = false := by unfold okA; rw [hn]; simp [h2]
        have hf : ofA a b c = (0, 0, 0) := by unfold ofA; rw [hv]; rfl
        rw [hf, hv]
        clear hv hf hn
        unfold kval aval
        go_enter Tryd.func15, Tryd.ntmps15
        go_wp2_with fail
        refine (C.out _).mono ?_; rintro e w' ⟨rfl, rfl⟩
        go_wp2_with fail
        go_returns
        exact ⟨rfl, hB2.out⟩
    · have hv : okA b c = false := by unfold okA; rw [hn]; simp [h1]
      have hf : ofA a b c = (0, 0, 0) := by unfold ofA; rw [hv]; rfl
      rw [hf, hv]
      clear hv hf hn
      unfold kval aval
      go_enter Tryd.func15, Tryd.ntmps15
      go_wp2_with fail
      refine (C.out _).mono ?_; rintro e w' ⟨rfl, rfl⟩
      go_wp2_with fail
      go_returns
      exact ⟨rfl, hB2.out⟩
  | false =>
    rw [hn] at C
    have hv : okA b c = false := by unfold okA; rw [hn]; rfl
    have hf : ofA a b c = (0, 0, 0) := by unfold ofA; rw [hv]; rfl
    rw [hf, hv]
    clear hv hf hn
    unfold kval aval
    go_enter Tryd.func15, Tryd.ntmps15
    go_wp2_with fail
    refine (C.out _).mono ?_; rintro e w' ⟨rfl, rfl⟩
    go_wp2_with fail
    go_returns
    exact ⟨rfl, hB2.out⟩
def risK (l : List Ky) : Bool := (List.range (l.length - 1)).all fun j => ltK (l.getD j default) (l.getD (j + 1) default)
theorem rising_any (ad : Option Addr) (len cap : Nat) (l : List Ky) (w : World) (hlen : l.length = len) (hm : len ≤ 9223372036854775807) (hr : RdK w ad l) :
    Calls Tryd.prog 22 #[.slice ad len cap] w fun e w' => e = .returned (.bool (risK l)) ∧ Below w.heap.size w w' := by
  have HL := Lib.hid hlen
  have HR := Lib.hid hr
  have CL : Hid (∀ x y wr W, Below wr.heap.size wr W → Calls Tryd.prog 11 #[kval x, kval y] W fun e w' => e = .returned (.bool (ltK x y)) ∧ Below wr.heap.size wr w') := Lib.hid (fun x y wr W hW => (less_any x y W).mono fun e w' h => ⟨h.1, hW.trans (h.2.mono hW.size)⟩)
  have HT : Hid ((∀ j, j < len - 1 → ltK (l.getD j default) (l.getD (j + 1) default) = true) → risK l = true) := Lib.hid (fun h => by
    unfold risK
    rw [List.all_eq_true]
    intro j hj
    rw [List.mem_range, hlen] at hj
    exact h j hj)
  have HF : Hid (∀ j, j < len - 1 → ltK (l.getD j default) (l.getD (j + 1) default) = false → risK l = false) := Lib.hid (fun j hj h => by
    unfold risK
    rw [List.all_eq_false]
    exact ⟨j, List.mem_range.2 (by rw [hlen]; exact hj), by rw [h]; simp⟩)
  generalize risK l = r at *
  clear hlen hr
  go_enter Tryd.func22, Tryd.ntmps22
  go_wp2_with fail
  go_loopw [3] (fun i wr => ∃ k : Nat, (k ≤ len ∨ k = 1) ∧ 1 ≤ k ∧ i = .int .i64 k ∧ Hid (Below w.heap.size w wr) ∧ Hid (∀ j, j < k - 1 → ltK (l.getD j default) (l.getD (j + 1) default) = true)) (fun i _ => len - (intOf i).toNat)
  case atStart => exact ⟨1, .inr rfl, Nat.le_refl _, rfl, Lib.hid (Below.refl _ _), Lib.hid (fun j hj => by omega)⟩
  case round =>
    obtain ⟨k, hk, hk1, rfl, hB, hno⟩ := hrel
    by_cases hlt : k < len
    · obtain ⟨j, rfl⟩ : ∃ j, k = j + 1 := ⟨k - 1, by omega⟩
      obtain ⟨b, off, rfl, hbw, hc⟩ := HR.out.at_ (i := j) (by rw [HL.out]; omega)
      obtain ⟨b2, off2, e2, -, hc2⟩ := HR.out.at_ (i := j + 1) (by rw [HL.out]; omega)
      cases e2
      have HTr := Lib.hid (fun h => HF.out j (by omega) h)
      have HE := Lib.hid hno.out
      generalize hyv : l.getD j default = y at *
      generalize hzv : l.getD (j + 1) default = z at *
      have hyv' := Lib.hid hyv
      have hzv' := Lib.hid hzv
      clear hyv hzv
      have HC : Hid (∀ W, Below wr.heap.size wr W → (W.cell? ⟨b, off + j * 3, none⟩ = some (.int .i64 y.1) ∧ W.cell? ⟨b, off + j * 3 + 1, none⟩ = some (.int .i64 y.2.1) ∧ W.cell? ⟨b, off + j * 3 + 2, none⟩ = some (.int .u32 y.2.2)) ∧
            (W.cell? ⟨b, off + (j + 1) * 3, none⟩ = some (.int .i64 z.1) ∧ W.cell? ⟨b, off + (j + 1) * 3 + 1, none⟩ = some (.int .i64 z.2.1) ∧ W.cell? ⟨b, off + (j + 1) * 3 + 2, none⟩ = some (.int .u32 z.2.2))) := Lib.hid (fun W hW =>
          have h := hB.out.trans (hW.mono hB.out.size)
          ⟨at3 (hc.below h hbw), at3 (hc2.below h hbw)⟩)
      have CLk := Lib.hid (CL.out y z wr)
      have hj2 : IntKind.i64.wrap (j : Int) = (j : Int) := by rw [IntKind.wrap_i64]; omega
      have hj3 : (j : Int) < (len : Int) := by omega
      have hj4 : ((j + 1 : Nat) : Int) < (len : Int) := by omega
      clear hc hc2 hno
      cases hz : ltK y z with
      | true =>
        rw [hz] at CLk
        have HN : Hid (∀ i, i < j + 1 → ltK (l.getD i default) (l.getD (i + 1) default) = true) := Lib.hid (fun i hi => by
          rcases Nat.lt_succ_iff_lt_or_eq.1 hi with h | rfl
          · exact HE.out i (by omega)
          · rw [hyv'.out, hzv'.out]; exact hz)
        obtain ⟨p, q, s⟩ := y
        obtain ⟨p', q', s'⟩ := z
        unfold kval at CLk
        simp only at CLk HC
        clear hz HTr
        obtain ⟨⟨c0, c1, c2⟩, d0, d1, d2⟩ := HC.out wr (Below.refl _ _)
        go_wp2_with fail
        refine wp_region_noPanic ?_
        go_region_held_law (fun W => Below wr.heap.size wr W ∧ (W.cell? ⟨b, off + j * 3, none⟩ = some (.int .i64 p) ∧ W.cell? ⟨b, off + j * 3 + 1, none⟩ = some (.int .i64 q) ∧ W.cell? ⟨b, off + j * 3 + 2, none⟩ = some (.int .u32 s)) ∧
            (W.cell? ⟨b, off + (j + 1) * 3, none⟩ = some (.int .i64 p') ∧ W.cell? ⟨b, off + (j + 1) * 3 + 1, none⟩ = some (.int .i64 q') ∧ W.cell? ⟨b, off + (j + 1) * 3 + 2, none⟩ = some (.int .u32 s'))) ((refine ⟨?_, HC.out _ ?_⟩ <;> (first | assumption | exact (Below.refl _ _) | exact (Below.refl _ _).drew)))
          ((go_at_call 11; refine (CLk.out _ ?_).mono ?_; (focus (first | assumption | exact (Below.refl _ _).drew | exact (‹Below wr.heap.size wr _ ∧ _›).1)); rintro e w7 ⟨rfl, hB7⟩))
        rename_i hHeld
        clear hHeld c0 c1 c2 d0 d1 d2
        have HB7 := Lib.hid (hB.out.trans (hB7.mono hB.out.size))
        clear hB7
        refine NoPanic.normal ?_
        go_wp2_with fail
        go_roundw
        case rel => exact ⟨j + 1 + 1, .inl (by omega), by omega, by go_num, HB7, HN⟩
        case measure => simp [intOf]; omega
      | false =>
        rw [hz] at CLk
        have hr' := HTr.out hz
        subst hr'
        obtain ⟨p, q, s⟩ := y
        obtain ⟨p', q', s'⟩ := z
        unfold kval at CLk
        simp only at CLk HC
        clear hz HTr HT HF
        obtain ⟨⟨c0, c1, c2⟩, d0, d1, d2⟩ := HC.out wr (Below.refl _ _)
        go_wp2_with fail
        refine wp_region_noPanic ?_
        go_region_held_law (fun W => Below wr.heap.size wr W ∧ (W.cell? ⟨b, off + j * 3, none⟩ = some (.int .i64 p) ∧ W.cell? ⟨b, off + j * 3 + 1, none⟩ = some (.int .i64 q) ∧ W.cell? ⟨b, off + j * 3 + 2, none⟩ = some (.int .u32 s)) ∧
            (W.cell? ⟨b, off + (j + 1) * 3, none⟩ = some (.int .i64 p') ∧ W.cell? ⟨b, off + (j + 1) * 3 + 1, none⟩ = some (.int .i64 q') ∧ W.cell? ⟨b, off + (j + 1) * 3 + 2, none⟩ = some (.int .u32 s'))) ((refine ⟨?_, HC.out _ ?_⟩ <;> (first | assumption | exact (Below.refl _ _) | exact (Below.refl _ _).drew)))
          ((go_at_call 11; refine (CLk.out _ ?_).mono ?_; (focus (first | assumption | exact (Below.refl _ _).drew | exact (‹Below wr.heap.size wr _ ∧ _›).1)); rintro e w7 ⟨rfl, hB7⟩))
        rename_i hHeld
        clear hHeld c0 c1 c2 d0 d1 d2
        have HB7 := Lib.hid (hB.out.trans (hB7.mono hB.out.size))
        clear hB7
        refine NoPanic.normal ?_
        go_wp2_with fail
        go_ret
        exact ⟨rfl, HB7.out⟩
    · have hr' := HT.out (fun j hj => hno.out j (by omega))
      subst hr'
      clear HF HT hno
      go_wp2_with fail
      go_ret
      exact ⟨rfl, hB.out⟩
end Go.Proofs.YtpfnjippdjhfgaaDoor.Key
