/- Contracts of package agenda (layer 8) at int64: Drain; nil. -/
import Derived.Test.YtliblcjfccijjaaAgdG
namespace Go.Proofs.Ytliblcjfccijjaa.AgdL
open Go.ChangeShapes Go.WideShapes Go.ChangeAt Go.RowKit
open Go.Proofs.Ytliblcjfccijjaa.Rw Go.Proofs.Ytliblcjfccijjaa.Agd
set_option linter.unusedVariables false
set_option linter.unusedSimpArgs false
theorem infoInt : (Try.prog.info? 2).map (fun i => (i.zero, i.size, i.bytes)) = some (some (.int .i64 0), 1, 8) := by kernel_rfl
abbrev OwnI (w : World) (base : Nat) (v : Value) (xs : List Int) : Prop := OwnS encI 1 2 w base v xs
/-- What Drain leaves. -/
def DrainPost (now : Int) (g : Nat) (most : Int) (add : Nat) (l : List Th) (F : Nat → Prop) (w : World) (e : Ending) (w' : World) : Prop :=
  ∃ ad cap, e = .returned (.slice ad (DR now l).1.length cap) ∧ OwnI w' w.heap.size (.slice ad (DR now l).1.length cap) ((DR now l).1.map Th.x) ∧ AgStay g most add (DR now l).2 F w w'
set_option maxHeartbeats 4000000 in
theorem drain_any (now : Int) (g : Nat) (most : Int) (add : Nat) (l : List Th) (F : Nat → Prop) (w : World) (h : AgL w g most add l F) (hN : l.length ≤ 100000) (hF : ∀ k, F k → k < w.heap.size) :
    Calls Try.prog 34 #[.pointer (some ⟨g, 0, none⟩), .int .i64 now] w (DrainPost now g most add l F w) := by
  obtain ⟨i0, hi0, hz0, hz1, hz2⟩ := info_parts infoInt
  have H0 := Lib.hid h
  have HX : Hid (∀ (W : World) (x : Int), ∀ j u, (encI x)[j]? = some u → (W.alloc (.cells #[.int .i64 x] 2)).cell? ((⟨W.heap.size, 0, none⟩ : Addr).add j) = some u) := Lib.hid (fun W x j u hu => by
    rw [Addr.add_lit]
    exact Rw.At.box (enc := encI) W x _ rfl j u hu)
  clear h
  go_enter Try.func34, Try.ntmps34
  go_wp2_with fail
  go_loopw [5] (fun v wr => ∃ (pre l2 : List Th), v.lenOf + l2.length ≤ l.length ∧ v.lenOf = pre.length ∧ Hid (pre ++ (DR now l2).1 = (DR now l).1 ∧ (DR now l2).2 = (DR now l).2 ∧ OwnI wr w.heap.size v (pre.map Th.x) ∧ AgL wr g most add l2 F ∧ Stay F w wr)) (fun v _ => l.length - v.lenOf)
  case atStart => exact ⟨[], l, by simp [Value.lenOf], rfl, Lib.hid ⟨rfl, rfl, OwnS.nil _ _, H0.out, Stay.refl _ _⟩⟩
  case round =>
    obtain ⟨pre, l2, hle, hlen, hI⟩ := hrel
    have CT := Lib.hid (take_any now g most add l2 F wr hI.out.2.2.2.1 (by omega))
    obtain ⟨ad, cap, rfl, -⟩ := Own.shape hI.out.2.2.1
    rw [List.length_map] at hI hlen hle ⊢
    cases hc : can l2 now with
    | false =>
      have e1 : tl l2 now = l2 := by unfold tl; rw [hc]; rfl
      rw [hc, e1] at CT
      have HE : Hid (∀ w1, AgStay g most add l2 F wr w1 → DrainPost now g most add l F w (.returned (.slice ad pre.length cap)) w1) := Lib.hid (fun w1 h1 => by
        obtain ⟨q1, q2, q3, q4, q5⟩ := hI.out
        rw [DR_stop hc] at q1 q2
        simp only [List.append_nil] at q1
        subst q1
        refine ⟨ad, cap, rfl, own_stay q3 h1.2 (fun k hk hf => by have := hF k hf; have := own_ge q3 hk; omega), ?_, q5.snoc h1.2 (fun k _ e => e)⟩
        rw [← q2]
        exact h1.1)
      generalize tx l2 now = x at *
      clear hc e1 hI
      go_wp2_with fail
      refine (CT.out).mono ?_; rintro e w1 ⟨rfl, hq⟩
      have HQ := Lib.hid (HE.out _ hq)
      clear hq
      go_wp2_with fail
      go_ret
      exact HQ.out
    | true =>
      have e1 : tl l2 now = tk l2 := by unfold tl; rw [hc]; rfl
      have e2 : tx l2 now = (Agd.hd l2).x := by unfold tx; rw [hc]; rfl
      rw [hc, e1, e2] at CT
      have hkl := tk_len (can_true hc).1
      have HE : Hid (∀ w1, AgStay g most add (tk l2) F wr w1 → w1.ownsRow w.heap.size 2 1 (.slice ad pre.length cap) pre.length ((pre.map Th.x).flatMap encI) ∧ w.heap.size ≤ w1.heap.size ∧ ∀ v' w2, w2.ownsRow w.heap.size 2 1 v' (pre.length + 1) ((pre.map Th.x).flatMap encI ++ encI (Agd.hd l2).x) → (w1.alloc (.cells #[.int .i64 (Agd.hd l2).x] 2)).grownBy w2 (Value.slice ad pre.length cap).ownBlock →
          v'.lenOf = (pre ++ [Agd.hd l2]).length ∧ ((pre ++ [Agd.hd l2]) ++ (DR now (tk l2)).1 = (DR now l).1 ∧ (DR now (tk l2)).2 = (DR now l).2 ∧ OwnI w2 w.heap.size v' ((pre ++ [Agd.hd l2]).map Th.x) ∧ AgL w2 g most add (tk l2) F ∧ Stay F w w2)) := Lib.hid (fun w1 h1 => by
        obtain ⟨q1, q2, q3, q4, q5⟩ := hI.out
        rw [DR_step hc] at q1 q2
        have o1 : w1.ownsRow w.heap.size 2 1 (.slice ad pre.length cap) pre.length ((pre.map Th.x).flatMap encI) := by
          have := own_stay q3 h1.2 (fun k hk hf => by have := hF k hf; have := own_ge q3 hk; omega)
          rw [List.length_map] at this
          exact this
        have hs1 := q5.size
        have hs2 := h1.2.size
        refine ⟨o1, by omega, fun v' w2 o2 hg => ?_⟩
        have hB : Below w.heap.size w1 w2 := Own.below_append o1 (by omega) hg
        have o3 : OwnI w2 w.heap.size v' ((pre ++ [Agd.hd l2]).map Th.x) := by
          unfold OwnI OwnS
          rw [List.length_map, List.length_append, List.map_append, List.flatMap_append, List.map_singleton, List.flatMap_singleton]
          exact o2
        refine ⟨?_, by rw [List.append_assoc]; exact q1, q2, o3, h1.1.kept (fun k hk _ => hB.block k (hF k hk)), stay_below (q5.snoc h1.2 (fun k _ e => e)) hB⟩
        obtain ⟨ad', cap', rfl, -⟩ := Own.shape o2
        simp [Value.lenOf])
      generalize (Agd.hd l2).x = x at *
      clear hc e1 hI e2
      go_wp2_with fail
      refine (CT.out).mono ?_; rintro e w1 ⟨rfl, hq⟩
      obtain ⟨o1, hsz, hk⟩ := HE.out _ hq
      have HK := Lib.hid hk
      clear hq hk
      go_wp2_with (at_builtin; refine Own.wpList_append2 _ rfl _ _ 68 rfl w.heap.size 2 i0 (.int .i64 0) 1 8 Try.underlying68 hi0 hz0 hz1 hz2 rfl (by decide) _ _ _ rfl (World.ownsRow.alloc o1 _) ⟨World.heap _ |>.size, 0, none⟩ 1 1 (encI x) rfl rfl (HX.out _ x) (encI_one _) (by unfold maxLen; omega) (by omega) (by simp; omega) ?_; intro v' w2 hown' hgrow _ _)
      obtain ⟨k1, k2⟩ := HK.out v' w2 hown' hgrow
      go_roundw
      case rel => exact ⟨pre ++ [Agd.hd l2], tk l2, by rw [k1, List.length_append, List.length_singleton]; omega, k1, Lib.hid k2⟩
      case measure => rw [k1, List.length_append, List.length_singleton]; simp only [Value.lenOf]; omega
end Go.Proofs.Ytliblcjfccijjaa.AgdL
