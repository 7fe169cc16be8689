/- The statements' own call of both clocks (layer 22), by kind. -/
import Derived.Test.YtpenopeecfgjjaaClkC
import Derived.Test.YtpenopeecfgjjaaClkT
namespace Go.Proofs.Ytpenopeecfgjjaa.Clk
open Go.ChangeShapes Go.WideShapes Go.ChangeAt Go.RowKit
open Go.Proofs.Ytpenopeecfgjjaa.Rw Go.Proofs.Ytpenopeecfgjjaa.Slw
set_option linter.unusedVariables false
/-- The document's clock as a value, of its state. -/
abbrev rk (r : Kl) (v : Int) : Value := rkV r.1 r.2.1 r.2.2 v
theorem rboot_any (r : Kl) (v x : Int) (w : World) :
    Calls Try.prog 21 #[rk r v, .int .i64 x] w fun e w' => e = .returned (.tuple #[rk (bootN x r) v, .int .i64 (bootE r)]) ∧ Below w.heap.size w w' := by
  obtain ⟨p, a, l⟩ := r
  by_cases hp : p = 0
  · subst hp
    exact rboot_yes a l v x w
  · unfold bootN bootE
    rw [if_neg hp, if_neg hp]
    exact rboot_no p a l v x hp w
theorem rguess_any (r : Kl) (v x : Int) (w : World) :
    Calls Try.prog 22 #[rk r v, .int .i64 x] w fun e w' => e = .returned (.tuple #[rk (guessN x r) v, .int .i64 (guessE r)]) ∧ Below w.heap.size w w' := by
  obtain ⟨p, a, l⟩ := r
  by_cases hp : p = 2
  · subst hp
    exact rguess_no a l v x w
  · unfold guessN guessE
    rw [if_neg hp, if_neg hp]
    exact rguess_yes p a l v x hp w
theorem rcorr_any (r : Kl) (v x : Int) (ho : Ok r) (w : World) :
    Calls Try.prog 23 #[rk r v, .int .i64 x] w fun e w' => e = .returned (.tuple #[rk (corrN x r) v, .int .i64 (corrE r)]) ∧ Below w.heap.size w w' := by
  have a0 := ho.a0
  have a1 := ho.a1
  have p0 := ho.p0
  have p1 := ho.p1
  obtain ⟨p, a, l⟩ := r
  simp only at a0 a1 p0 p1
  by_cases hp : p = 0
  · subst hp
    exact rcorrect_cold a l v x w
  · by_cases hq : p = 1
    · subst hq
      exact rcorrect_rough a l v x a0 a1 w
    · obtain rfl : p = 2 := by omega
      exact rcorrect_synced a l v x w
theorem rtick_any (r : Kl) (v x : Int) (ho : Ok r) (hv : r.1 = 0 ∨ 1 ≤ v ∧ v ≤ 256) (w : World) :
    Calls Try.prog 24 #[rk r v, .int .i64 x] w fun e w' => e = .returned (.tuple #[rk (tickN v x r) v, .int .i64 (tickE v x r)]) ∧ Below w.heap.size w w' := by
  have a0 := ho.a0
  have a1 := ho.a1
  have l0 := ho.l0
  have l1 := ho.l1
  obtain ⟨p, a, l⟩ := r
  simp only at a0 a1 l0 l1 hv
  by_cases hp : p = 0
  · subst hp
    exact rtick_cold a l v x w
  · rcases hv with hv | ⟨v0, v1⟩
    · exact absurd hv hp
    · unfold tickN tickE
      rw [if_neg hp, if_neg hp]
      exact rtick_warm p a l v x hp v0 v1 a0 a1 l0 l1 w
/-- What lies there while a call of both is made: the clock, the act, the result's box, the document's answer. -/
structure Desk (w0 W : World) (g b c d : Nat) (m : Int) (s : Kl) (k x : Int) (p a l v : Int) : Prop where
  set : SetP g m s.2.2 s.1 s.2.1 w0 W
  ok : Ok s
  cge : w0.heap.size ≤ c
  act : Blk W b 33 #[.int .u8 k, .int .i64 x]
  res : Blk W c 28 #[.int .i64 0, .int .i64 0, .int .i64 0, .int .i64 0]
  tmp : Blk W d 28 #[.int .i64 p, .int .i64 a, .int .i64 l, .int .i64 v]
theorem Desk.to {w0 W W' : World} {g b c d : Nat} {m : Int} {s s' : Kl} {k x p a l v : Int} (h : Desk w0 W g b c d m s k x p a l v) (q : SetP g m s'.2.2 s'.1 s'.2.1 W W') (ho : Ok s') : Desk w0 W' g b c d m s' k x p a l v :=
  ⟨h.set.trans q, ho, h.cge, h.act.stay q.2 (fun e => h.act.ne h.set.1 (by decide) e), h.res.stay q.2 (fun e => h.res.ne h.set.1 (by decide) e), h.tmp.stay q.2 (fun e => h.tmp.ne h.set.1 (by decide) e)⟩
theorem SetP.on {g : Nat} {m l p a : Int} {w W W' : World} (h : SetP g m l p a w W) (q : Below W.heap.size W W') : SetP g m l p a w W' :=
  ⟨h.1.below q, h.2.snoc (Stay.of_below q) (fun k _ e => e)⟩
theorem Desk.on {w0 W W' : World} {g b c d : Nat} {m : Int} {s : Kl} {k x p a l v : Int} (h : Desk w0 W g b c d m s k x p a l v) (q : Below W.heap.size W W') : Desk w0 W' g b c d m s k x p a l v :=
  ⟨h.set.on q, h.ok, h.cge, h.act.below q, h.res.below q, h.tmp.below q⟩
/-- Behind the stores into the result's box. -/
def chain4 (W : World) (c : Nat) (p a l v : Int) : World := (((W.setCell ⟨c, 0, none⟩ (.int .i64 p)).setCell ⟨c, 1, none⟩ (.int .i64 a)).setCell ⟨c, 2, none⟩ (.int .i64 l)).setCell ⟨c, 3, none⟩ (.int .i64 v)
theorem SetP.far {g c i : Nat} {m l p a : Int} {w W : World} (h : SetP g m l p a w W) (hne : g ≠ c) (hc : w.heap.size ≤ c) (u : Value) : SetP g m l p a w (W.setCell ⟨c, i, none⟩ u) :=
  ⟨h.1.far (p := ⟨c, i, none⟩) hne u, h.2.snoc (Stay.of_grown (F := fun k => k = c) (setCell_grown W c i u) (fun k e => by cases e; rfl)) (fun k hk e => by omega)⟩
theorem Desk.end_ {w0 W : World} {g b c d : Nat} {m : Int} {s : Kl} {k x p a l v p' a' l' v' : Int} (h : Desk w0 W g b c d m s k x p a l v) :
    Blk (chain4 W c p' a' l' v') c 28 #[.int .i64 p', .int .i64 a', .int .i64 l', .int .i64 v'] ∧ SetP g m s.2.2 s.1 s.2.1 w0 (chain4 W c p' a' l' v') := by
  have hne : g ≠ c := fun e => h.res.ne h.set.1 (by decide) e.symm
  exact ⟨put4 h.res _ _ _ _, (((h.set.far hne h.cge _).far hne h.cge _).far hne h.cge _).far hne h.cge _⟩
/-- A desk that was laid, once the document's answer is there. -/
theorem Desk.laid {w0 W : World} {g : Nat} {m : Int} {s : Kl} {k x : Int} {cs : Array Value} (h : CC w0 g m s.2.2 s.1 s.2.1) (hs : Ok s)
    (hW : Below (((w0.alloc (.cells cs 28)).alloc (.cells #[.int .u8 k, .int .i64 x] 33)).alloc (.cells #[.int .i64 0, .int .i64 0, .int .i64 0, .int .i64 0] 28)).heap.size (((w0.alloc (.cells cs 28)).alloc (.cells #[.int .u8 k, .int .i64 x] 33)).alloc (.cells #[.int .i64 0, .int .i64 0, .int .i64 0, .int .i64 0] 28)) W) (p a l v : Int) :
    Desk w0 (W.alloc (.cells #[.int .i64 p, .int .i64 a, .int .i64 l, .int .i64 v] 28)) g (w0.heap.size + 1) (w0.heap.size + 1 + 1) W.heap.size m s k x p a l v := by
  have e1 : (w0.alloc (.cells cs 28)).heap.size = w0.heap.size + 1 := by simp
  have e2 : ((w0.alloc (.cells cs 28)).alloc (.cells #[.int .u8 k, .int .i64 x] 33)).heap.size = w0.heap.size + 1 + 1 := by simp
  have h1 : Below w0.heap.size w0 (((w0.alloc (.cells cs 28)).alloc (.cells #[.int .u8 k, .int .i64 x] 33)).alloc (.cells #[.int .i64 0, .int .i64 0, .int .i64 0, .int .i64 0] 28)) := by go_grown
  have hB : Below w0.heap.size w0 W := h1.trans (hW.mono h1.size)
  have h2 := ((Blk.new (w0.alloc (.cells cs 28)) 33 #[.int .u8 k, .int .i64 x]).alloc (.cells #[.int .i64 0, .int .i64 0, .int .i64 0, .int .i64 0] 28)).below hW
  have h3 := (Blk.new ((w0.alloc (.cells cs 28)).alloc (.cells #[.int .u8 k, .int .i64 x] 33)) 28 #[.int .i64 0, .int .i64 0, .int .i64 0, .int .i64 0]).below hW
  rw [e1] at h2
  rw [e2] at h3
  exact ⟨((SetP.same h).on hB).on ((Below.refl _ _).alloc (Nat.le_refl _) _), hs, by omega, h2.alloc _, h3.alloc _, Blk.new _ _ _⟩

set_option maxHeartbeats 4000000 in
theorem one_boot {w0 : World} {g : Nat} {m : Int} {s : Kl} (r : Kl) (v n k x : Int) (k0 : 0 ≤ k) (k1 : k ≤ 255) (hk : k % 8 = 0) (ho : Ok r) (hv : r.1 = 0 ∨ 1 ≤ v ∧ v ≤ 256) (h : CC w0 g m s.2.2 s.1 s.2.1) (hs : Ok s) :
    Calls Try.prog 9 #[.pointer (some ⟨g, 0, none⟩), rk r v, .int .i64 n, .agg #[.int .u8 k, .int .i64 x]] w0 fun e w' => e = .returned (.tuple #[rk (bootN x r) v, .bool (bootE s == bootE r)]) ∧ SetP g m (bootN x s).2.2 (bootN x s).1 (bootN x s).2.1 w0 w' := by
  have CR := Lib.hid (fun W => rboot_any r v x W)
  have CB : Hid (∀ b c d k p a l v W, Desk w0 W g b c d m s k x p a l v → Calls Try.prog 14 #[.pointer (some ⟨g, 0, none⟩), .int .i64 x] W fun e w' => e = .returned (.int .i64 (bootE s)) ∧ Desk w0 w' g b c d m (bootN x s) k x p a l v) := Lib.hid (fun b c d k p a l v W hD => by
    refine (sboot_any x hD.set.1).mono ?_
    rintro e w' ⟨he, hp⟩
    exact ⟨he, hD.to hp (boot_ok x hD.ok)⟩)
  have HL : Hid (∀ W (p a l v : Int), Below (((w0.alloc (.cells #[.int .i64 r.1, .int .i64 r.2.1, .int .i64 r.2.2, .int .i64 v] 28)).alloc (.cells #[.int .u8 k, .int .i64 x] 33)).alloc (.cells #[.int .i64 0, .int .i64 0, .int .i64 0, .int .i64 0] 28)).heap.size (((w0.alloc (.cells #[.int .i64 r.1, .int .i64 r.2.1, .int .i64 r.2.2, .int .i64 v] 28)).alloc (.cells #[.int .u8 k, .int .i64 x] 33)).alloc (.cells #[.int .i64 0, .int .i64 0, .int .i64 0, .int .i64 0] 28)) W →
      Desk w0 (W.alloc (.cells #[.int .i64 p, .int .i64 a, .int .i64 l, .int .i64 v] 28)) g (w0.heap.size + 1) (w0.heap.size + 1 + 1) W.heap.size m s k x p a l v) := Lib.hid (fun W p a l v hW => Desk.laid h hs hW p a l v)
  have hact := Lib.hid (fun W hW => (HL.out W 0 0 0 0 hW).act)
  clear h
  unfold rk rkV at CR ⊢
  generalize (bootN x r) = r2 at *
  generalize bootE r = n2 at *
  generalize bootE s = n1 at *
  generalize (bootN x s) = s2 at *
  generalize r.1 = p at *
  generalize r.2.1 = a at *
  generalize r.2.2 = l at *
  generalize r2.1 = p2 at *
  generalize r2.2.1 = a2 at *
  generalize r2.2.2 = l2 at *
  go_enter Try.func9, Try.ntmps9
  go_wp2_with fail
  refine (CR.out _).mono ?_; rintro e W1 ⟨rfl, hB⟩
  have HD := Lib.hid (HL.out W1 p2 a2 l2 v hB)
  clear hB CR HL
  go_upto_region 4 with fail
  clear hact
  generalize (W1.alloc (Obj.cells #[Value.int IntKind.i64 p2, Value.int IntKind.i64 a2, Value.int IntKind.i64 l2, Value.int IntKind.i64 v] 28)) = W5 at *
  generalize W1.heap.size = d at *
  generalize w0.heap.size + 1 + 1 = c at *
  generalize w0.heap.size + 1 = b at *
  have HDd := Lib.hid (HD.out.on ((Below.refl _ _).drew))
  obtain ⟨q0, q1, q2, q3⟩ := blk4 HD.out.tmp
  have q4 := HD.out.act.cell 1
  simp only [List.getElem?_toArray, List.getElem?_cons_succ, List.getElem?_cons_zero] at q4
  go_region_with (go_at_call 14; refine (CB.out b c d k p2 a2 l2 v _ (by first | exact HD.out | exact HDd.out)).mono ?_; rintro e W ⟨rfl, hD⟩; obtain ⟨t0, t1, t2, t3⟩ := blk4 hD.tmp; obtain ⟨u0, u1, u2, u3⟩ := blk4 hD.res; obtain ⟨f0, f1, f2, f3⟩ := free4 hD.res; have HX := Lib.hid hD; clear hD)
  all_goals
    go_wp2_with fail
    refine bodyPost_ret (results_rk2 rfl _ _ c _ _ rfl rfl (by first | exact HX.out.end_.1 | exact HX.out.end_.1.below ((Below.refl _ _).drew) | exact ((HX.out.on ((Below.refl _ _).drew)).end_).1) rfl) rfl ⟨rfl, by first | exact HX.out.end_.2 | exact SetP.on HX.out.end_.2 ((Below.refl _ _).drew) | exact ((HX.out.on ((Below.refl _ _).drew)).end_).2⟩

set_option maxHeartbeats 4000000 in
theorem one_guess {w0 : World} {g : Nat} {m : Int} {s : Kl} (r : Kl) (v n k x : Int) (k0 : 0 ≤ k) (k1 : k ≤ 255) (hk : k % 8 = 1) (ho : Ok r) (hv : r.1 = 0 ∨ 1 ≤ v ∧ v ≤ 256) (h : CC w0 g m s.2.2 s.1 s.2.1) (hs : Ok s) :
    Calls Try.prog 9 #[.pointer (some ⟨g, 0, none⟩), rk r v, .int .i64 n, .agg #[.int .u8 k, .int .i64 x]] w0 fun e w' => e = .returned (.tuple #[rk (guessN x r) v, .bool (guessE s == guessE r)]) ∧ SetP g m (guessN x s).2.2 (guessN x s).1 (guessN x s).2.1 w0 w' := by
  have CR := Lib.hid (fun W => rguess_any r v x W)
  have CB : Hid (∀ b c d k p a l v W, Desk w0 W g b c d m s k x p a l v → Calls Try.prog 15 #[.pointer (some ⟨g, 0, none⟩), .int .i64 x] W fun e w' => e = .returned (.int .i64 (guessE s)) ∧ Desk w0 w' g b c d m (guessN x s) k x p a l v) := Lib.hid (fun b c d k p a l v W hD => by
    refine (sguess_any x hD.set.1).mono ?_
    rintro e w' ⟨he, hp⟩
    exact ⟨he, hD.to hp (guess_ok x hD.ok)⟩)
  have HL : Hid (∀ W (p a l v : Int), Below (((w0.alloc (.cells #[.int .i64 r.1, .int .i64 r.2.1, .int .i64 r.2.2, .int .i64 v] 28)).alloc (.cells #[.int .u8 k, .int .i64 x] 33)).alloc (.cells #[.int .i64 0, .int .i64 0, .int .i64 0, .int .i64 0] 28)).heap.size (((w0.alloc (.cells #[.int .i64 r.1, .int .i64 r.2.1, .int .i64 r.2.2, .int .i64 v] 28)).alloc (.cells #[.int .u8 k, .int .i64 x] 33)).alloc (.cells #[.int .i64 0, .int .i64 0, .int .i64 0, .int .i64 0] 28)) W →
      Desk w0 (W.alloc (.cells #[.int .i64 p, .int .i64 a, .int .i64 l, .int .i64 v] 28)) g (w0.heap.size + 1) (w0.heap.size + 1 + 1) W.heap.size m s k x p a l v) := Lib.hid (fun W p a l v hW => Desk.laid h hs hW p a l v)
  have hact := Lib.hid (fun W hW => (HL.out W 0 0 0 0 hW).act)
  clear h
  unfold rk rkV at CR ⊢
  generalize (guessN x r) = r2 at *
  generalize guessE r = n2 at *
  generalize guessE s = n1 at *
  generalize (guessN x s) = s2 at *
  generalize r.1 = p at *
  generalize r.2.1 = a at *
  generalize r.2.2 = l at *
  generalize r2.1 = p2 at *
  generalize r2.2.1 = a2 at *
  generalize r2.2.2 = l2 at *
  go_enter Try.func9, Try.ntmps9
  go_wp2_with fail
  refine (CR.out _).mono ?_; rintro e W1 ⟨rfl, hB⟩
  have HD := Lib.hid (HL.out W1 p2 a2 l2 v hB)
  clear hB CR HL
  go_upto_region 7 with fail
  clear hact
  generalize (W1.alloc (Obj.cells #[Value.int IntKind.i64 p2, Value.int IntKind.i64 a2, Value.int IntKind.i64 l2, Value.int IntKind.i64 v] 28)) = W5 at *
  generalize W1.heap.size = d at *
  generalize w0.heap.size + 1 + 1 = c at *
  generalize w0.heap.size + 1 = b at *
  have HDd := Lib.hid (HD.out.on ((Below.refl _ _).drew))
  obtain ⟨q0, q1, q2, q3⟩ := blk4 HD.out.tmp
  have q4 := HD.out.act.cell 1
  simp only [List.getElem?_toArray, List.getElem?_cons_succ, List.getElem?_cons_zero] at q4
  go_region_with (go_at_call 15; refine (CB.out b c d k p2 a2 l2 v _ (by first | exact HD.out | exact HDd.out)).mono ?_; rintro e W ⟨rfl, hD⟩; obtain ⟨t0, t1, t2, t3⟩ := blk4 hD.tmp; obtain ⟨u0, u1, u2, u3⟩ := blk4 hD.res; obtain ⟨f0, f1, f2, f3⟩ := free4 hD.res; have HX := Lib.hid hD; clear hD)
  all_goals
    go_wp2_with fail
    refine bodyPost_ret (results_rk2 rfl _ _ c _ _ rfl rfl (by first | exact HX.out.end_.1 | exact HX.out.end_.1.below ((Below.refl _ _).drew) | exact ((HX.out.on ((Below.refl _ _).drew)).end_).1) rfl) rfl ⟨rfl, by first | exact HX.out.end_.2 | exact SetP.on HX.out.end_.2 ((Below.refl _ _).drew) | exact ((HX.out.on ((Below.refl _ _).drew)).end_).2⟩

set_option maxHeartbeats 4000000 in
theorem one_corr {w0 : World} {g : Nat} {m : Int} {s : Kl} (r : Kl) (v n k x : Int) (k0 : 0 ≤ k) (k1 : k ≤ 255) (hk : k % 8 = 2) (ho : Ok r) (hv : r.1 = 0 ∨ 1 ≤ v ∧ v ≤ 256) (h : CC w0 g m s.2.2 s.1 s.2.1) (hs : Ok s) :
    Calls Try.prog 9 #[.pointer (some ⟨g, 0, none⟩), rk r v, .int .i64 n, .agg #[.int .u8 k, .int .i64 x]] w0 fun e w' => e = .returned (.tuple #[rk (corrN x r) v, .bool (corrE s == corrE r)]) ∧ SetP g m (corrN x s).2.2 (corrN x s).1 (corrN x s).2.1 w0 w' := by
  have CR := Lib.hid (fun W => rcorr_any r v x ho W)
  have CB : Hid (∀ b c d k p a l v W, Desk w0 W g b c d m s k x p a l v → Calls Try.prog 16 #[.pointer (some ⟨g, 0, none⟩), .int .i64 x] W fun e w' => e = .returned (.int .i64 (corrE s)) ∧ Desk w0 w' g b c d m (corrN x s) k x p a l v) := Lib.hid (fun b c d k p a l v W hD => by
    refine (scorr_any x hD.ok hD.set.1).mono ?_
    rintro e w' ⟨he, hp⟩
    exact ⟨he, hD.to hp (corr_ok x hD.ok)⟩)
  have HL : Hid (∀ W (p a l v : Int), Below (((w0.alloc (.cells #[.int .i64 r.1, .int .i64 r.2.1, .int .i64 r.2.2, .int .i64 v] 28)).alloc (.cells #[.int .u8 k, .int .i64 x] 33)).alloc (.cells #[.int .i64 0, .int .i64 0, .int .i64 0, .int .i64 0] 28)).heap.size (((w0.alloc (.cells #[.int .i64 r.1, .int .i64 r.2.1, .int .i64 r.2.2, .int .i64 v] 28)).alloc (.cells #[.int .u8 k, .int .i64 x] 33)).alloc (.cells #[.int .i64 0, .int .i64 0, .int .i64 0, .int .i64 0] 28)) W →
      Desk w0 (W.alloc (.cells #[.int .i64 p, .int .i64 a, .int .i64 l, .int .i64 v] 28)) g (w0.heap.size + 1) (w0.heap.size + 1 + 1) W.heap.size m s k x p a l v) := Lib.hid (fun W p a l v hW => Desk.laid h hs hW p a l v)
  have hact := Lib.hid (fun W hW => (HL.out W 0 0 0 0 hW).act)
  clear h
  unfold rk rkV at CR ⊢
  generalize (corrN x r) = r2 at *
  generalize corrE r = n2 at *
  generalize corrE s = n1 at *
  generalize (corrN x s) = s2 at *
  generalize r.1 = p at *
  generalize r.2.1 = a at *
  generalize r.2.2 = l at *
  generalize r2.1 = p2 at *
  generalize r2.2.1 = a2 at *
  generalize r2.2.2 = l2 at *
  go_enter Try.func9, Try.ntmps9
  go_wp2_with fail
  refine (CR.out _).mono ?_; rintro e W1 ⟨rfl, hB⟩
  have HD := Lib.hid (HL.out W1 p2 a2 l2 v hB)
  clear hB CR HL
  go_upto_region 10 with fail
  clear hact
  generalize (W1.alloc (Obj.cells #[Value.int IntKind.i64 p2, Value.int IntKind.i64 a2, Value.int IntKind.i64 l2, Value.int IntKind.i64 v] 28)) = W5 at *
  generalize W1.heap.size = d at *
  generalize w0.heap.size + 1 + 1 = c at *
  generalize w0.heap.size + 1 = b at *
  have HDd := Lib.hid (HD.out.on ((Below.refl _ _).drew))
  obtain ⟨q0, q1, q2, q3⟩ := blk4 HD.out.tmp
  have q4 := HD.out.act.cell 1
  simp only [List.getElem?_toArray, List.getElem?_cons_succ, List.getElem?_cons_zero] at q4
  go_region_with (go_at_call 16; refine (CB.out b c d k p2 a2 l2 v _ (by first | exact HD.out | exact HDd.out)).mono ?_; rintro e W ⟨rfl, hD⟩; obtain ⟨t0, t1, t2, t3⟩ := blk4 hD.tmp; obtain ⟨u0, u1, u2, u3⟩ := blk4 hD.res; obtain ⟨f0, f1, f2, f3⟩ := free4 hD.res; have HX := Lib.hid hD; clear hD)
  all_goals
    go_wp2_with fail
    refine bodyPost_ret (results_rk2 rfl _ _ c _ _ rfl rfl (by first | exact HX.out.end_.1 | exact HX.out.end_.1.below ((Below.refl _ _).drew) | exact ((HX.out.on ((Below.refl _ _).drew)).end_).1) rfl) rfl ⟨rfl, by first | exact HX.out.end_.2 | exact SetP.on HX.out.end_.2 ((Below.refl _ _).drew) | exact ((HX.out.on ((Below.refl _ _).drew)).end_).2⟩

set_option maxHeartbeats 4000000 in
theorem one_tick {w0 : World} {g : Nat} {m : Int} {s : Kl} (r : Kl) (v n k x : Int) (k0 : 0 ≤ k) (k1 : k ≤ 255) (hk : 4 ≤ k % 8) (ho : Ok r) (hv : r.1 = 0 ∨ 1 ≤ v ∧ v ≤ 256) (h : CC w0 g m s.2.2 s.1 s.2.1) (hs : Ok s) :
    Calls Try.prog 9 #[.pointer (some ⟨g, 0, none⟩), rk r v, .int .i64 n, .agg #[.int .u8 k, .int .i64 x]] w0 fun e w' => e = .returned (.tuple #[rk (tickN v x r) v, .bool (tickE (sgV m) x s == tickE v x r)]) ∧ SetP g m (tickN (sgV m) x s).2.2 (tickN (sgV m) x s).1 (tickN (sgV m) x s).2.1 w0 w' := by
  have CR := Lib.hid (fun W => rtick_any r v x ho hv W)
  have CB : Hid (∀ b c d k p a l v W, Desk w0 W g b c d m s k x p a l v → Calls Try.prog 18 #[.pointer (some ⟨g, 0, none⟩), .int .i64 x] W fun e w' => e = .returned (.int .i64 (tickE (sgV m) x s)) ∧ Desk w0 w' g b c d m (tickN (sgV m) x s) k x p a l v) := Lib.hid (fun b c d k p a l v W hD => by
    refine (stick_any x hD.ok hD.set.1).mono ?_
    rintro e w' ⟨he, hp⟩
    exact ⟨he, hD.to hp (tick_ok x (sg_bd m).1 (sg_bd m).2 hD.ok)⟩)
  have HL : Hid (∀ W (p a l v : Int), Below (((w0.alloc (.cells #[.int .i64 r.1, .int .i64 r.2.1, .int .i64 r.2.2, .int .i64 v] 28)).alloc (.cells #[.int .u8 k, .int .i64 x] 33)).alloc (.cells #[.int .i64 0, .int .i64 0, .int .i64 0, .int .i64 0] 28)).heap.size (((w0.alloc (.cells #[.int .i64 r.1, .int .i64 r.2.1, .int .i64 r.2.2, .int .i64 v] 28)).alloc (.cells #[.int .u8 k, .int .i64 x] 33)).alloc (.cells #[.int .i64 0, .int .i64 0, .int .i64 0, .int .i64 0] 28)) W →
      Desk w0 (W.alloc (.cells #[.int .i64 p, .int .i64 a, .int .i64 l, .int .i64 v] 28)) g (w0.heap.size + 1) (w0.heap.size + 1 + 1) W.heap.size m s k x p a l v) := Lib.hid (fun W p a l v hW => Desk.laid h hs hW p a l v)
  have hact := Lib.hid (fun W hW => (HL.out W 0 0 0 0 hW).act)
  clear h
  unfold rk rkV at CR ⊢
  generalize (tickN v x r) = r2 at *
  generalize tickE v x r = n2 at *
  generalize tickE (sgV m) x s = n1 at *
  generalize (tickN (sgV m) x s) = s2 at *
  generalize r.1 = p at *
  generalize r.2.1 = a at *
  generalize r.2.2 = l at *
  generalize r2.1 = p2 at *
  generalize r2.2.1 = a2 at *
  generalize r2.2.2 = l2 at *
  have e0 : (k % 8 == 0) = false := beq_eq_false_iff_ne.2 (by omega)
  have e1 : (k % 8 == 1) = false := beq_eq_false_iff_ne.2 (by omega)
  have e2 : (k % 8 == 2) = false := beq_eq_false_iff_ne.2 (by omega)
  have e3 : (k % 8 == 3) = false := beq_eq_false_iff_ne.2 (by omega)
  clear hk
  go_enter Try.func9, Try.ntmps9
  go_wp2_with fail
  refine (CR.out _).mono ?_; rintro e W1 ⟨rfl, hB⟩
  have HD := Lib.hid (HL.out W1 p2 a2 l2 v hB)
  clear hB CR HL
  go_upto_region 15 with fail
  clear hact
  generalize (W1.alloc (Obj.cells #[Value.int IntKind.i64 p2, Value.int IntKind.i64 a2, Value.int IntKind.i64 l2, Value.int IntKind.i64 v] 28)) = W5 at *
  generalize W1.heap.size = d at *
  generalize w0.heap.size + 1 + 1 = c at *
  generalize w0.heap.size + 1 = b at *
  have HDd := Lib.hid (HD.out.on ((Below.refl _ _).drew))
  obtain ⟨q0, q1, q2, q3⟩ := blk4 HD.out.tmp
  have q4 := HD.out.act.cell 1
  simp only [List.getElem?_toArray, List.getElem?_cons_succ, List.getElem?_cons_zero] at q4
  go_region_with (go_at_call 18; refine (CB.out b c d k p2 a2 l2 v _ (by first | exact HD.out | exact HDd.out)).mono ?_; rintro e W ⟨rfl, hD⟩; obtain ⟨t0, t1, t2, t3⟩ := blk4 hD.tmp; obtain ⟨u0, u1, u2, u3⟩ := blk4 hD.res; obtain ⟨f0, f1, f2, f3⟩ := free4 hD.res; have HX := Lib.hid hD; clear hD)
  all_goals
    go_wp2_with fail
    refine bodyPost_ret (results_rk2 rfl _ _ c _ _ rfl rfl (by first | exact HX.out.end_.1 | exact HX.out.end_.1.below ((Below.refl _ _).drew) | exact ((HX.out.on ((Below.refl _ _).drew)).end_).1) rfl) rfl ⟨rfl, by first | exact HX.out.end_.2 | exact SetP.on HX.out.end_.2 ((Below.refl _ _).drew) | exact ((HX.out.on ((Below.refl _ _).drew)).end_).2⟩

set_option maxHeartbeats 4000000 in
theorem one_reset {w0 : World} {g : Nat} {m : Int} {s : Kl} (r : Kl) (v n k x : Int) (k0 : 0 ≤ k) (k1 : k ≤ 255) (hk : k % 8 = 3) (h : CC w0 g m s.2.2 s.1 s.2.1) (hs : Ok s) :
    Calls Try.prog 9 #[.pointer (some ⟨g, 0, none⟩), rk r v, .int .i64 n, .agg #[.int .u8 k, .int .i64 x]] w0 fun e w' => e = .returned (.tuple #[rk (0, 0, 0) (sgV n), .bool true]) ∧ SetP g m 0 0 0 w0 w' := by
  have CR := Lib.hid (fun W => rknew_any n W)
  have CB : Hid (∀ b c d k p a l v W, Desk w0 W g b c d m s k x p a l v → Calls Try.prog 17 #[.pointer (some ⟨g, 0, none⟩)] W fun e w' => e = .returned (.tuple #[]) ∧ Desk w0 w' g b c d m (0, 0, 0) k x p a l v) := Lib.hid (fun b c d k p a l v W hD => by
    refine (reset_any g m s.2.2 s.1 s.2.1 W hD.set.1).mono ?_
    rintro e w' ⟨he, hp⟩
    exact ⟨he, hD.to hp zero_ok⟩)
  have HL : Hid (Desk w0 (((w0.alloc (.cells #[.int .i64 r.1, .int .i64 r.2.1, .int .i64 r.2.2, .int .i64 v] 28)).alloc (.cells #[.int .u8 k, .int .i64 x] 33)).alloc (.cells #[.int .i64 0, .int .i64 0, .int .i64 0, .int .i64 0] 28)) g (w0.heap.size + 1) (w0.heap.size + 1 + 1) w0.heap.size m s k x r.1 r.2.1 r.2.2 v) := Lib.hid (by
    have e1 : (w0.alloc (.cells #[.int .i64 r.1, .int .i64 r.2.1, .int .i64 r.2.2, .int .i64 v] 28)).heap.size = w0.heap.size + 1 := by simp
    have e2 : ((w0.alloc (.cells #[.int .i64 r.1, .int .i64 r.2.1, .int .i64 r.2.2, .int .i64 v] 28)).alloc (.cells #[.int .u8 k, .int .i64 x] 33)).heap.size = w0.heap.size + 1 + 1 := by simp
    have h2 := (Blk.new (w0.alloc (.cells #[.int .i64 r.1, .int .i64 r.2.1, .int .i64 r.2.2, .int .i64 v] 28)) 33 #[.int .u8 k, .int .i64 x]).alloc (.cells #[.int .i64 0, .int .i64 0, .int .i64 0, .int .i64 0] 28)
    have h3 := Blk.new ((w0.alloc (.cells #[.int .i64 r.1, .int .i64 r.2.1, .int .i64 r.2.2, .int .i64 v] 28)).alloc (.cells #[.int .u8 k, .int .i64 x] 33)) 28 #[.int .i64 0, .int .i64 0, .int .i64 0, .int .i64 0]
    rw [e1] at h2
    rw [e2] at h3
    exact ⟨(SetP.same h).on (by go_grown), hs, by omega, h2, h3, ((Blk.new _ _ _).alloc _).alloc _⟩)
  clear h
  unfold rk rkV at CR ⊢
  generalize sgV n = vn at *
  generalize r.1 = p at *
  generalize r.2.1 = a at *
  generalize r.2.2 = l at *
  go_enter Try.func9, Try.ntmps9
  go_upto_region 12 with fail
  generalize (((w0.alloc (.cells #[.int .i64 p, .int .i64 a, .int .i64 l, .int .i64 v] 28)).alloc (.cells #[.int .u8 k, .int .i64 x] 33)).alloc (.cells #[.int .i64 0, .int .i64 0, .int .i64 0, .int .i64 0] 28)) = W3 at *
  generalize w0.heap.size + 1 + 1 = c at *
  generalize w0.heap.size + 1 = b at *
  go_wp2_with fail
  refine (CB.out _ _ _ _ _ _ _ _ _ HL.out).mono ?_; rintro e W4 ⟨rfl, hD⟩
  have HD := Lib.hid hD
  clear hD HL CB
  go_wp2_with fail
  refine (CR.out _).mono ?_; rintro e W5 ⟨rfl, hB⟩
  have HX := Lib.hid (HD.out.on hB)
  clear HD hB CR
  obtain ⟨u0, u1, u2, u3⟩ := blk4 HX.out.res
  obtain ⟨f0, f1, f2, f3⟩ := free4 HX.out.res
  go_wp2_with fail
  refine bodyPost_ret (results_rk2 rfl _ _ c _ _ rfl rfl (by first | exact HX.out.end_.1 | exact HX.out.end_.1.below ((Below.refl _ _).drew)) rfl) rfl ⟨rfl, by first | exact HX.out.end_.2 | exact SetP.on HX.out.end_.2 ((Below.refl _ _).drew)⟩
end Go.Proofs.Ytpenopeecfgjjaa.Clk
