/- A clock and the document's own side by side, and two clocks side by side (layer 22). -/
import Derived.Test.YtpenopeecfgjjaaClkO
namespace Go.Proofs.Ytpenopeecfgjjaa.Clk
open Go.ChangeShapes Go.WideShapes Go.ChangeAt Go.RowKit
open Go.Proofs.Ytpenopeecfgjjaa.Rw Go.Proofs.Ytpenopeecfgjjaa.Slw
set_option linter.unusedVariables false
/-- Where a call of kind k leads, and what it answers. -/
def nxt (v k x : Int) (s : Kl) : Kl := if k % 8 = 0 then bootN x s else if k % 8 = 1 then guessN x s else if k % 8 = 2 then corrN x s else if k % 8 = 3 then (0, 0, 0) else tickN v x s
theorem nxt_ok {v : Int} (k x : Int) {s : Kl} (v0 : 1 ≤ v) (v1 : v ≤ 256) (h : Ok s) : Ok (nxt v k x s) := by
  unfold nxt
  split
  · exact boot_ok x h
  · split
    · exact guess_ok x h
    · split
      · exact corr_ok x h
      · split
        · exact zero_ok
        · exact tick_ok x v0 v1 h
/-- Of both alike: what both answer is the same. -/
theorem one_same {w0 : World} {g : Nat} {m : Int} {s : Kl} (k x : Int) (k0 : 0 ≤ k) (k1 : k ≤ 255) (hs : Ok s) (h : CC w0 g m s.2.2 s.1 s.2.1) :
    Calls Try.prog 9 #[.pointer (some ⟨g, 0, none⟩), rk s (sgV m), .int .i64 m, .agg #[.int .u8 k, .int .i64 x]] w0 fun e w' => e = .returned (.tuple #[rk (nxt (sgV m) k x s) (sgV m), .bool true]) ∧ SetP g m (nxt (sgV m) k x s).2.2 (nxt (sgV m) k x s).1 (nxt (sgV m) k x s).2.1 w0 w' := by
  have hv : s.1 = 0 ∨ 1 ≤ sgV m ∧ sgV m ≤ 256 := .inr (sg_bd m)
  unfold nxt
  by_cases h0 : k % 8 = 0
  · rw [if_pos h0]
    have := one_boot s (sgV m) m k x k0 k1 h0 hs hv h hs
    rwa [show (bootE s == bootE s) = true from beq_self_eq_true _] at this
  · rw [if_neg h0]
    by_cases h1 : k % 8 = 1
    · rw [if_pos h1]
      have := one_guess s (sgV m) m k x k0 k1 h1 hs hv h hs
      rwa [show (guessE s == guessE s) = true from beq_self_eq_true _] at this
    · rw [if_neg h1]
      by_cases h2 : k % 8 = 2
      · rw [if_pos h2]
        have := one_corr s (sgV m) m k x k0 k1 h2 hs hv h hs
        rwa [show (corrE s == corrE s) = true from beq_self_eq_true _] at this
      · rw [if_neg h2]
        by_cases h3 : k % 8 = 3
        · rw [if_pos h3]
          exact one_reset s (sgV m) m k x k0 k1 h3 h hs
        · rw [if_neg h3]
          have := one_tick s (sgV m) m k x k0 k1 (by omega) hs hv h hs
          rwa [show (tickE (sgV m) x s == tickE (sgV m) x s) = true from beq_self_eq_true _] at this
/-- Beside a document's clock that is cold: what the clock itself does. -/
theorem one_cold {w0 : World} {g : Nat} {m : Int} {s : Kl} (n k x : Int) (k0 : 0 ≤ k) (k1 : k ≤ 255) (hk : k % 8 ≠ 3) (hs : Ok s) (h : CC w0 g m s.2.2 s.1 s.2.1) :
    Calls Try.prog 9 #[.pointer (some ⟨g, 0, none⟩), rk (0, 0, 0) 0, .int .i64 n, .agg #[.int .u8 k, .int .i64 x]] w0 fun e w' => ∃ y b, e = .returned (.tuple #[y, .bool b]) ∧ SetP g m (nxt (sgV m) k x s).2.2 (nxt (sgV m) k x s).1 (nxt (sgV m) k x s).2.1 w0 w' := by
  have hv : ((0, 0, 0) : Kl).1 = 0 ∨ 1 ≤ (0 : Int) ∧ (0 : Int) ≤ 256 := .inl rfl
  unfold nxt
  by_cases h0 : k % 8 = 0
  · rw [if_pos h0]
    exact (one_boot (0, 0, 0) 0 n k x k0 k1 h0 zero_ok hv h hs).mono (fun e w' ⟨h1, h2⟩ => ⟨_, _, h1, h2⟩)
  · rw [if_neg h0]
    by_cases h1 : k % 8 = 1
    · rw [if_pos h1]
      exact (one_guess (0, 0, 0) 0 n k x k0 k1 h1 zero_ok hv h hs).mono (fun e w' ⟨h1, h2⟩ => ⟨_, _, h1, h2⟩)
    · rw [if_neg h1]
      by_cases h2 : k % 8 = 2
      · rw [if_pos h2]
        exact (one_corr (0, 0, 0) 0 n k x k0 k1 h2 zero_ok hv h hs).mono (fun e w' ⟨h1, h2⟩ => ⟨_, _, h1, h2⟩)
      · rw [if_neg h2, if_neg hk]
        exact (one_tick (0, 0, 0) 0 n k x k0 k1 (by omega) zero_ok hv h hs).mono (fun e w' ⟨h1, h2⟩ => ⟨_, _, h1, h2⟩)
/-- A clock that is synced stays so, and never goes back, but by Reset. -/
theorem on_step {v : Int} (k x : Int) {s : Kl} (v0 : 1 ≤ v) (v1 : v ≤ 256) (h : Ok s) (hp : s.1 = 2) (hk : k % 8 ≠ 3) : (nxt v k x s).1 = 2 ∧ s.2.1 ≤ (nxt v k x s).2.1 := by
  have h8 := ad_bd s.2.2 x v0 v1 h.a0 h.a1
  obtain ⟨p, a, l⟩ := s
  simp only at hp h8
  subst hp
  unfold nxt bootN guessN corrN tickN
  split
  · simp
  · split
    · simp
    · split
      · simp
      · simp
        omega
theorem kone_any {w W : World} {g : Nat} {m : Int} {s : Kl} (n k x : Int) (k0 : 0 ≤ k) (k1 : k ≤ 255) (hk : k % 8 ≠ 3) (h : Kept w W g m s) :
    Calls Try.prog 9 #[.pointer (some ⟨g, 0, none⟩), rk (0, 0, 0) 0, .int .i64 n, .agg #[.int .u8 k, .int .i64 x]] W fun e w' => ∃ y b, e = .returned (.tuple #[y, .bool b]) ∧ Kept w w' g m (nxt (sgV m) k x s) :=
  (one_cold n k x k0 k1 hk h.ok h.box).mono fun e w' ⟨y, b, he, hp⟩ => ⟨y, b, he, h.to hp (nxt_ok k x (sg_bd m).1 (sg_bd m).2 h.ok)⟩
/-- A clock, and beside it a box with the document's own. -/
structure Two (w W : World) (g e : Nat) (m v : Int) (s r : Kl) : Prop where
  hv : sgV m = v
  kept : Kept w W g m s
  ge : w.heap.size ≤ e
  box : Blk W e 28 #[.int .i64 r.1, .int .i64 r.2.1, .int .i64 r.2.2, .int .i64 v]
theorem Two.on {w W W' : World} {g e : Nat} {m v : Int} {s r : Kl} (h : Two w W g e m v s r) (p : Below W.heap.size W W') : Two w W' g e m v s r := ⟨h.hv, h.kept.on p, h.ge, h.box.below p⟩
theorem Two.to {w W W' : World} {g e : Nat} {m v : Int} {s s' r : Kl} (h : Two w W g e m v s r) (p : SetP g m s'.2.2 s'.1 s'.2.1 W W') (ho : Ok s') : Two w W' g e m v s' r :=
  ⟨h.hv, h.kept.to p ho, h.ge, h.box.stay p.2 (fun he => h.box.ne h.kept.box (by decide) he)⟩
theorem Two.put {w W : World} {g e : Nat} {m v : Int} {s r : Kl} (h : Two w W g e m v s r) (r' : Kl) : Two w (chain4 W e r'.1 r'.2.1 r'.2.2 v) g e m v s r' := by
  have hne : g ≠ e := fun he => h.box.ne h.kept.box (by decide) he.symm
  refine ⟨h.hv, ⟨h.kept.ge, ?_, ?_, h.kept.ok⟩, h.ge, put4 h.box _ _ _ _⟩
  · exact (((h.kept.box.far (p := ⟨e, 0, none⟩) hne _).far (p := ⟨e, 1, none⟩) hne _).far (p := ⟨e, 2, none⟩) hne _).far (p := ⟨e, 3, none⟩) hne _
  · exact (((h.kept.bel.setCell h.ge _).setCell h.ge _).setCell h.ge _).setCell h.ge _
theorem Two.begin {w W : World} {g : Nat} {m v : Int} {s : Kl} (h : Kept w W g m s) (hv : sgV m = v) (r : Kl) : Two w (W.alloc (.cells #[.int .i64 r.1, .int .i64 r.2.1, .int .i64 r.2.2, .int .i64 v] 28)) g W.heap.size m v s r :=
  ⟨hv, h.on ((Below.refl _ _).alloc (Nat.le_refl _) _), h.bel.size, Blk.new _ _ _⟩
theorem tone_any {w W : World} {g e : Nat} {m v : Int} {s r : Kl} (k x : Int) (k0 : 0 ≤ k) (k1 : k ≤ 255) (h : Two w W g e m v s r) :
    Calls Try.prog 9 #[.pointer (some ⟨g, 0, none⟩), rk s v, .int .i64 m, .agg #[.int .u8 k, .int .i64 x]] W fun q w' => q = .returned (.tuple #[rk (nxt v k x s) v, .bool true]) ∧ Two w w' g e m v (nxt v k x s) r := by
  have hv := h.hv
  subst hv
  exact (one_same k x k0 k1 h.kept.ok h.kept.box).mono fun q w' ⟨he, hp⟩ => ⟨he, h.to hp (nxt_ok k x (sg_bd m).1 (sg_bd m).2 h.kept.ok)⟩
theorem quiet_same {P : Program} {f : FuncId} {args : Array Value} {w : World} {n : Nat} {v : Value}
    (h : Calls P f args (w.drewN n) fun e w' => e = .returned v ∧ w.drewN n = w') : Calls P f args (w.drewN n) fun e w'' => e = .returned v ∧ ∃ m, w'' = w.drewN m :=
  h.mono fun _ _ ⟨he, hm⟩ => ⟨he, n, hm.symm⟩
/-- Two clocks that a call made. -/
structure Pair (w W : World) (g e : Nat) (m : Int) (s r : Kl) : Prop where
  one : Kept w W g m s
  two : Kept w W e m r
  ne : g ≠ e
theorem Pair.to1 {w W W' : World} {g e : Nat} {m : Int} {s s' r : Kl} (h : Pair w W g e m s r) (p : SetP g m s'.2.2 s'.1 s'.2.1 W W') (ho : Ok s') : Pair w W' g e m s' r :=
  ⟨h.one.to p ho, ⟨h.two.ge, h.two.box.stay p.2 (fun e => h.ne e.symm), h.two.bel.trans (p.2.below (fun k e => by rw [e]; exact h.one.ge) h.two.bel.size), h.two.ok⟩, h.ne⟩
theorem Pair.to2 {w W W' : World} {g e : Nat} {m : Int} {s r r' : Kl} (h : Pair w W g e m s r) (p : SetP e m r'.2.2 r'.1 r'.2.1 W W') (ho : Ok r') : Pair w W' g e m s r' :=
  ⟨⟨h.one.ge, h.one.box.stay p.2 (fun e => h.ne e), h.one.bel.trans (p.2.below (fun k e => by rw [e]; exact h.two.ge) h.one.bel.size), h.one.ok⟩, h.two.to p ho, h.ne⟩
end Go.Proofs.Ytpenopeecfgjjaa.Clk
