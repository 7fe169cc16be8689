/- A clock that a call made itself, beside what was there ahead of it (layer 22): where each call leads, and contracts that hand the whole on. -/
import Derived.Test.YtpenopeecfgjjaaClkB
namespace Go.Proofs.Ytpenopeecfgjjaa.Clk
open Go.ChangeShapes Go.WideShapes Go.ChangeAt Go.RowKit
open Go.Proofs.Ytpenopeecfgjjaa.Rw Go.Proofs.Ytpenopeecfgjjaa.Slw
set_option linter.unusedVariables false
/-- A clock: its phase, its time, what is left. -/
abbrev Kl := Int × Int × Int
/-- What a clock may be. -/
structure Ok (s : Kl) : Prop where
  p0 : 0 ≤ s.1
  p1 : s.1 ≤ 2
  a0 : 0 ≤ s.2.1
  a1 : s.2.1 ≤ 1152921504606846976
  l0 : -1152921504606846976 ≤ s.2.2
  l1 : s.2.2 ≤ 1152921504606846976
  cold : s.1 = 0 → s.2.1 = 0
def bootN (x : Int) (s : Kl) : Kl := if s.1 = 0 then (2, tiV x, s.2.2) else s
def bootE (s : Kl) : Int := if s.1 = 0 then 0 else 14
def guessN (x : Int) (s : Kl) : Kl := if s.1 = 2 then s else (1, tiV x, s.2.2)
def guessE (s : Kl) : Int := if s.1 = 2 then 14 else 0
def corrN (x : Int) (s : Kl) : Kl := if s.1 = 0 then s else if s.1 = 1 then (2, tiV (s.2.1 + saV x), s.2.2) else (2, s.2.1, saV x)
def corrE (s : Kl) : Int := if s.1 = 0 then 14 else 0
def tickN (v x : Int) (s : Kl) : Kl := if s.1 = 0 then s else (s.1, s.2.1 + adV v s.2.2 s.2.1 x, s.2.2 - smV v s.2.2 (siV x))
def tickE (v x : Int) (s : Kl) : Int := if s.1 = 0 then 0 else adV v s.2.2 s.2.1 x
theorem boot_ok {s : Kl} (x : Int) (h : Ok s) : Ok (bootN x s) := by
  have := ti_bd x
  obtain ⟨p, a, l⟩ := s
  obtain ⟨h1, h2, h3, h4, h5, h6, h7⟩ := h
  simp only at h1 h2 h3 h4 h5 h6 h7
  unfold bootN
  split
  · exact ⟨by simp, by simp, by simp only; omega, by simp only; omega, by simp only; omega, by simp only; omega, by simp⟩
  · exact ⟨h1, h2, h3, h4, h5, h6, h7⟩
theorem guess_ok {s : Kl} (x : Int) (h : Ok s) : Ok (guessN x s) := by
  have := ti_bd x
  obtain ⟨p, a, l⟩ := s
  obtain ⟨h1, h2, h3, h4, h5, h6, h7⟩ := h
  simp only at h1 h2 h3 h4 h5 h6 h7
  unfold guessN
  split
  · exact ⟨h1, h2, h3, h4, h5, h6, h7⟩
  · exact ⟨by simp, by simp, by simp only; omega, by simp only; omega, by simp only; omega, by simp only; omega, by simp⟩
theorem corr_ok {s : Kl} (x : Int) (h : Ok s) : Ok (corrN x s) := by
  have h8 := ti_bd (s.2.1 + saV x)
  have h9 := sa_bd x
  obtain ⟨p, a, l⟩ := s
  obtain ⟨h1, h2, h3, h4, h5, h6, h7⟩ := h
  simp only at h1 h2 h3 h4 h5 h6 h7 h8
  unfold corrN
  simp only
  split
  · exact ⟨h1, h2, h3, h4, h5, h6, h7⟩
  · split
    · exact ⟨by simp, by simp, by simp only; omega, by simp only; omega, by simp only; omega, by simp only; omega, by simp⟩
    · exact ⟨by simp, by simp, by simp only; omega, by simp only; omega, by simp only; omega, by simp only; omega, by simp⟩
theorem tick_ok {s : Kl} {v : Int} (x : Int) (g0 : 1 ≤ v) (g1 : v ≤ 256) (h : Ok s) : Ok (tickN v x s) := by
  have h8 := ad_bd s.2.2 x g0 g1 h.a0 h.a1
  have h9 := lf_bd x g0 h.l0 h.l1
  obtain ⟨p, a, l⟩ := s
  obtain ⟨h1, h2, h3, h4, h5, h6, h7⟩ := h
  simp only at h1 h2 h3 h4 h5 h6 h7 h8 h9
  unfold tickN
  simp only
  split
  · exact ⟨h1, h2, h3, h4, h5, h6, h7⟩
  · exact ⟨by simp only; omega, by simp only; omega, by simp only; omega, by simp only; omega, by simp only; omega, by simp only; omega, fun h => absurd h (by assumption)⟩
theorem zero_ok : Ok (0, 0, 0) := ⟨by simp, by simp, by simp, by simp, by simp, by simp, by simp⟩
/-- A clock in a block of its own; what was there in w stands. -/
structure Kept (w W : World) (g : Nat) (m : Int) (s : Kl) : Prop where
  ge : w.heap.size ≤ g
  box : CC W g m s.2.2 s.1 s.2.1
  bel : Below w.heap.size w W
  ok : Ok s
theorem Kept.to {w W W' : World} {g : Nat} {m : Int} {s s' : Kl} (h : Kept w W g m s) (p : SetP g m s'.2.2 s'.1 s'.2.1 W W') (ho : Ok s') : Kept w W' g m s' :=
  ⟨h.ge, p.1, h.bel.trans (p.2.below (fun k e => by rw [e]; exact h.ge) h.bel.size), ho⟩
theorem Kept.on {w W W' : World} {g : Nat} {m : Int} {s : Kl} (h : Kept w W g m s) (p : Below W.heap.size W W') : Kept w W' g m s :=
  ⟨h.ge, h.box.below p, h.bel.trans (p.mono h.bel.size), h.ok⟩
/-! Each call, from a world to the next one. -/
theorem sboot_any {g : Nat} {m : Int} {s : Kl} {W : World} (x : Int) (h : CC W g m s.2.2 s.1 s.2.1) :
    Calls Try.prog 14 #[.pointer (some ⟨g, 0, none⟩), .int .i64 x] W fun e w' => e = .returned (.int .i64 (bootE s)) ∧ SetP g m (bootN x s).2.2 (bootN x s).1 (bootN x s).2.1 W w' := by
  obtain ⟨p, a, l⟩ := s
  by_cases hp : p = 0
  · subst hp
    exact boot_yes g m l a x W h
  · unfold bootE bootN
    rw [if_neg hp, if_neg hp]
    exact (boot_no g m l p a x hp W h).mono (fun e w' ⟨he, hw⟩ => ⟨he, by rw [← hw]; exact SetP.same h⟩)
theorem sguess_any {g : Nat} {m : Int} {s : Kl} {W : World} (x : Int) (h : CC W g m s.2.2 s.1 s.2.1) :
    Calls Try.prog 15 #[.pointer (some ⟨g, 0, none⟩), .int .i64 x] W fun e w' => e = .returned (.int .i64 (guessE s)) ∧ SetP g m (guessN x s).2.2 (guessN x s).1 (guessN x s).2.1 W w' := by
  obtain ⟨p, a, l⟩ := s
  by_cases hp : p = 2
  · subst hp
    exact (guess_no g m l a x W h).mono (fun e w' ⟨he, hw⟩ => ⟨he, by rw [← hw]; exact SetP.same h⟩)
  · unfold guessE guessN
    rw [if_neg hp, if_neg hp]
    exact guess_yes g m l p a x hp W h
theorem scorr_any {g : Nat} {m : Int} {s : Kl} {W : World} (x : Int) (ho : Ok s) (h : CC W g m s.2.2 s.1 s.2.1) :
    Calls Try.prog 16 #[.pointer (some ⟨g, 0, none⟩), .int .i64 x] W fun e w' => e = .returned (.int .i64 (corrE s)) ∧ SetP g m (corrN x s).2.2 (corrN x s).1 (corrN x s).2.1 W w' := by
  have a0 := ho.a0
  have a1 := ho.a1
  have p0 := ho.p0
  have p1 := ho.p1
  obtain ⟨p, a, l⟩ := s
  simp only at a0 a1 p0 p1
  by_cases hp : p = 0
  · subst hp
    exact (correct_cold g m l a x W h).mono (fun e w' ⟨he, hw⟩ => ⟨he, by rw [← hw]; exact SetP.same h⟩)
  · by_cases hq : p = 1
    · subst hq
      exact correct_rough g m l a x a0 a1 W h
    · obtain rfl : p = 2 := by omega
      exact correct_synced g m l a x W h
theorem stick_any {g : Nat} {m : Int} {s : Kl} {W : World} (x : Int) (ho : Ok s) (h : CC W g m s.2.2 s.1 s.2.1) :
    Calls Try.prog 18 #[.pointer (some ⟨g, 0, none⟩), .int .i64 x] W fun e w' => e = .returned (.int .i64 (tickE (sgV m) x s)) ∧ SetP g m (tickN (sgV m) x s).2.2 (tickN (sgV m) x s).1 (tickN (sgV m) x s).2.1 W w' := by
  have a0 := ho.a0
  have a1 := ho.a1
  have l0 := ho.l0
  have l1 := ho.l1
  obtain ⟨p, a, l⟩ := s
  simp only at a0 a1 l0 l1
  by_cases hp : p = 0
  · subst hp
    exact (tick_cold g m l a x W h).mono (fun e w' ⟨he, hw⟩ => ⟨he, by rw [← hw]; exact SetP.same h⟩)
  · unfold tickE tickN
    rw [if_neg hp, if_neg hp]
    exact tick_warm g m l p a x hp a0 a1 W h l0 l1
def nowB (s : Kl) : Bool := !(s.1 == 0)
theorem snow_any {g : Nat} {m : Int} {s : Kl} {W : World} (ho : Ok s) (h : CC W g m s.2.2 s.1 s.2.1) :
    Calls Try.prog 10 #[.pointer (some ⟨g, 0, none⟩)] W fun e w' => e = .returned (.tuple #[.int .i64 s.2.1, .bool (nowB s)]) ∧ W = w' := by
  have hc := ho.cold
  obtain ⟨p, a, l⟩ := s
  by_cases hp : p = 0
  · subst hp
    obtain rfl : a = 0 := hc rfl
    exact now_cold g m l 0 W h
  · have hb : nowB (p, a, l) = true := by unfold nowB; simpa using hp
    rw [hb]
    exact now_warm g m l p a hp W h
/-! Each call, beside what was there. -/
theorem knew_any {w W : World} (m : Int) (h : Below w.heap.size w W) :
    Calls Try.prog 7 #[.int .i64 m] W fun e w' => ∃ g, W.heap.size ≤ g ∧ e = .returned (.pointer (some ⟨g, 0, none⟩)) ∧ Kept w w' g m (0, 0, 0) ∧ Below W.heap.size W w' :=
  (new_any m W).mono fun e w' ⟨g, he, hg, hc, hb⟩ => ⟨g, hg, he, ⟨Nat.le_trans h.size hg, hc, h.trans (hb.mono h.size), zero_ok⟩, hb⟩
theorem kboot_any {w W : World} {g : Nat} {m : Int} {s : Kl} (x : Int) (h : Kept w W g m s) :
    Calls Try.prog 14 #[.pointer (some ⟨g, 0, none⟩), .int .i64 x] W fun e w' => e = .returned (.int .i64 (bootE s)) ∧ Kept w w' g m (bootN x s) :=
  (sboot_any x h.box).mono fun e w' ⟨he, hp⟩ => ⟨he, h.to hp (boot_ok x h.ok)⟩
theorem kguess_any {w W : World} {g : Nat} {m : Int} {s : Kl} (x : Int) (h : Kept w W g m s) :
    Calls Try.prog 15 #[.pointer (some ⟨g, 0, none⟩), .int .i64 x] W fun e w' => e = .returned (.int .i64 (guessE s)) ∧ Kept w w' g m (guessN x s) :=
  (sguess_any x h.box).mono fun e w' ⟨he, hp⟩ => ⟨he, h.to hp (guess_ok x h.ok)⟩
theorem kcorr_any {w W : World} {g : Nat} {m : Int} {s : Kl} (x : Int) (h : Kept w W g m s) :
    Calls Try.prog 16 #[.pointer (some ⟨g, 0, none⟩), .int .i64 x] W fun e w' => e = .returned (.int .i64 (corrE s)) ∧ Kept w w' g m (corrN x s) :=
  (scorr_any x h.ok h.box).mono fun e w' ⟨he, hp⟩ => ⟨he, h.to hp (corr_ok x h.ok)⟩
theorem ktick_any {w W : World} {g : Nat} {m : Int} {s : Kl} (x : Int) (h : Kept w W g m s) :
    Calls Try.prog 18 #[.pointer (some ⟨g, 0, none⟩), .int .i64 x] W fun e w' => e = .returned (.int .i64 (tickE (sgV m) x s)) ∧ Kept w w' g m (tickN (sgV m) x s) :=
  (stick_any x h.ok h.box).mono fun e w' ⟨he, hp⟩ => ⟨he, h.to hp (tick_ok x (sg_bd m).1 (sg_bd m).2 h.ok)⟩
theorem kreset_any {w W : World} {g : Nat} {m : Int} {s : Kl} (h : Kept w W g m s) :
    Calls Try.prog 17 #[.pointer (some ⟨g, 0, none⟩)] W fun e w' => e = .returned (.tuple #[]) ∧ Kept w w' g m (0, 0, 0) :=
  (reset_any g m s.2.2 s.1 s.2.1 W h.box).mono fun e w' ⟨he, hp⟩ => ⟨he, h.to hp zero_ok⟩
theorem know_any {w W : World} {g : Nat} {m : Int} {s : Kl} (h : Kept w W g m s) :
    Calls Try.prog 10 #[.pointer (some ⟨g, 0, none⟩)] W fun e w' => e = .returned (.tuple #[.int .i64 s.2.1, .bool (nowB s)]) ∧ W = w' := snow_any h.ok h.box
theorem kphase_any {w W : World} {g : Nat} {m : Int} {s : Kl} (h : Kept w W g m s) :
    Calls Try.prog 11 #[.pointer (some ⟨g, 0, none⟩)] W fun e w' => e = .returned (.int .i64 s.1) ∧ W = w' := phase_any g m s.2.2 s.1 s.2.1 W h.box
theorem kleft_any {w W : World} {g : Nat} {m : Int} {s : Kl} (h : Kept w W g m s) :
    Calls Try.prog 12 #[.pointer (some ⟨g, 0, none⟩)] W fun e w' => e = .returned (.int .i64 s.2.2) ∧ W = w' := left_any g m s.2.2 s.1 s.2.1 W h.box
/-! The chapter's example. -/
theorem works22_any (w : World) :
    Calls Try.prog 13 #[] w fun e w' => e = .returned (.bool true) ∧ Below w.heap.size w w' := by
  have CN := Lib.hid (knew_any 10 (Below.refl w.heap.size w))
  have CG : Hid (∀ g W, Kept w W g 10 (0, 0, 0) → Calls Try.prog 15 #[.pointer (some ⟨g, 0, none⟩), .int .i64 1000] W fun e w' => e = .returned (.int .i64 0) ∧ Kept w w' g 10 (1, 1000, 0)) := Lib.hid (fun g W h => kguess_any 1000 h)
  have CT : Hid (∀ g W, Kept w W g 10 (1, 1000, 0) → Calls Try.prog 18 #[.pointer (some ⟨g, 0, none⟩), .int .i64 1024] W fun e w' => e = .returned (.int .i64 1024) ∧ Kept w w' g 10 (1, 2024, 0)) := Lib.hid (fun g W h => ktick_any 1024 h)
  have CC1 : Hid (∀ g W, Kept w W g 10 (1, 2024, 0) → Calls Try.prog 16 #[.pointer (some ⟨g, 0, none⟩), .int .i64 (-24)] W fun e w' => e = .returned (.int .i64 0) ∧ Kept w w' g 10 (2, 2000, 0)) := Lib.hid (fun g W h => kcorr_any (-24) h)
  have CW : Hid (∀ g W, Kept w W g 10 (2, 2000, 0) → Calls Try.prog 10 #[.pointer (some ⟨g, 0, none⟩)] W fun e w' => e = .returned (.tuple #[.int .i64 2000, .bool true]) ∧ W = w') := Lib.hid (fun g W h => know_any h)
  have CP : Hid (∀ g W, Kept w W g 10 (2, 2000, 0) → Calls Try.prog 11 #[.pointer (some ⟨g, 0, none⟩)] W fun e w' => e = .returned (.int .i64 2) ∧ W = w') := Lib.hid (fun g W h => kphase_any h)
  have HE : Hid (∀ g W, Kept w W g 10 (2, 2000, 0) → Below w.heap.size w W) := Lib.hid (fun g W h => h.bel)
  generalize Kept w = Z at *
  generalize Below w.heap.size w = B at *
  go_enter Try.func13, Try.ntmps13
  go_wp2_with fail
  refine (CN.out).mono ?_; rintro e w1 ⟨g, _, rfl, hZ, _⟩
  go_wp2_with fail
  refine (CG.out _ _ hZ).mono ?_; rintro e w2 ⟨rfl, hZ⟩
  go_wp2_with fail
  refine (CT.out _ _ hZ).mono ?_; rintro e w3 ⟨rfl, hZ⟩
  go_wp2_with fail
  refine (CC1.out _ _ hZ).mono ?_; rintro e w4 ⟨rfl, hZ⟩
  go_wp2_with fail
  refine (CW.out _ _ hZ).mono ?_; rintro e w' ⟨rfl, rfl⟩
  go_wp2_with fail
  refine (CP.out _ _ hZ).mono ?_; rintro e w' ⟨rfl, rfl⟩
  go_wp2_with fail
  go_ret
  exact ⟨rfl, HE.out _ _ hZ⟩
end Go.Proofs.Ytpenopeecfgjjaa.Clk
