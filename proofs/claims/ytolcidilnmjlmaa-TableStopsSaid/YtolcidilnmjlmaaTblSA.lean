/- The law's same (layer 7): both have the same rows. -/
import Derived.Test.YtolcidilnmjlmaaTblO
import Derived.Test.YtolcidilnmjlmaaTblR
import Derived.Test.YtolcidilnmjlmaaTblV
import Derived.Deep.RegionHeld3
import Derived.Deep.RegionHeldLaw
import Derived.Sort.QuietIn
import Derived.Test.YtolcidilnmjlmaaQuiA
namespace Go.Proofs.Ytolcidilnmjlmaa.TblL
open Go.ChangeShapes Go.WideShapes Go.ChangeAt Go.RowKit Go.Sort Go.Shelf
open Go.Proofs.Ytolcidilnmjlmaa.Key Go.Proofs.Ytolcidilnmjlmaa.Rw Go.Proofs.Ytolcidilnmjlmaa.Tbl
open Go.Proofs.Ytolcidilnmjlmaa.TblR (encW RdR tval at4)
set_option linter.unusedVariables false
set_option linter.unusedSimpArgs false
attribute [local go_sem] Oper.semAt_some
/-- What holds between two rounds of same. -/
def SameI (ad : Option Addr) (n cap : Nat) (most : Int) (g c : Nat) (w : World) (i : Nat) (W : World) : Prop :=
  Below w.heap.size w W ∧ Blk W w.heap.size 27 #[.slice ad n cap, .int .i64 most] ∧ Blk W (w.heap.size + 1) 4 #[.bool false] ∧ Blk W c 23 #[.pointer (some ⟨g, 0, none⟩)] ∧ Blk W (c + 1) 3 #[.int .i64 (i : Nat)]
theorem SameI.below {ad : Option Addr} {n cap : Nat} {most : Int} {g c : Nat} {w W W' : World} {i m : Nat} (h : SameI ad n cap most g c w i W) (hB : Below m W W') (hm : w.heap.size + 2 ≤ m) (hc : c + 2 ≤ m) : SameI ad n cap most g c w i W' := by
  obtain ⟨h1, h2, h3, h4, h5⟩ := h
  exact ⟨h1.trans (hB.mono (by omega)), h2.below2 hB (by omega), h3.below2 hB (by omega), h4.below2 hB (by omega), h5.below2 hB (by omega)⟩
theorem row_same {d : List Row} {i : Nat} (h : i < d.length) : d.getD i default = rowAt d i := by simp [rowAt, List.getD, h]
theorem eqK_refl7 (x : Ky) : eqK x x = true := by unfold eqK; simp
set_option maxRecDepth 100000 in
set_option maxHeartbeats 40000000 in
theorem same7_any (g : Nat) (most : Int) (d : List Row) (F : Nat → Prop) (ad : Option Addr) (cap : Nat) (w : World) (h : TabL w g most d F) (hm : 0 ≤ most ∧ most ≤ 65536) (hd : d.length ≤ 1000000) (hr : RdR w ad d) :
    Calls Try.prog 9 #[.pointer (some ⟨g, 0, none⟩), tval ad d.length cap most] w fun e w' => e = .returned (.bool true) ∧ Below w.heap.size w w' := by
  suffices hh : CallsIn Fence.wide 4 Try.prog 9 #[.pointer (some ⟨g, 0, none⟩), tval ad d.length cap most] w fun e w' => e = .returned (.bool true) ∧ Below w.heap.size w w' from callsIn_wide.1 hh
  have hstr : Str (keys d) := by obtain ⟨mb, ov, -, -, -, h4, -⟩ := h; exact h4
  obtain ⟨w0, hw0⟩ : ∃ w0, Hid (w0 = (w.alloc (.cells #[.slice ad d.length cap, .int .i64 most] 27)).alloc (.cells #[.bool false] 4)) := ⟨_, Lib.hid rfl⟩
  have hB0 : Below w.heap.size w w0 := by rw [hw0.out]; exact (box_below _ _).alloc (by simp) _
  have hsz : w0.heap.size = w.heap.size + 2 := by rw [hw0.out, World.size_alloc, World.size_alloc]
  have b0 : Blk w0 w.heap.size 27 #[.slice ad d.length cap, .int .i64 most] := by rw [hw0.out]; exact (Blk.new w _ _).alloc _
  have b1 : Blk w0 (w.heap.size + 1) 4 #[.bool false] := by
    rw [hw0.out]
    have := Blk.new (w.alloc (.cells #[.slice ad d.length cap, .int .i64 most] 27)) 4 #[.bool false]
    rw [World.size_alloc] at this
    exact this
  have CL : Hid (∀ W, Below w0.heap.size w0 W → Calls Try.prog 21 #[.pointer (some ⟨g, 0, none⟩)] W fun e w' => e = .returned (.int .i64 (d.length : Nat)) ∧ Below w0.heap.size w0 w') := Lib.hid (fun W hB => (len_any g most d F W (h.below (hB0.trans (hB.mono hB0.size)))).mono fun e w' hh => ⟨hh.1, hh.2 ▸ hB⟩)
  have CR : Hid (∀ W, Below w0.heap.size w0 W → Calls Try.prog 22 #[.pointer (some ⟨g, 0, none⟩)] W fun e w' => e = .returned (.int .i64 (most - (d.length : Nat))) ∧ Below w0.heap.size w0 w') := Lib.hid (fun W hB => (room_any g most d F W (h.below (hB0.trans (hB.mono hB0.size))) hm hd).mono fun e w' hh => ⟨hh.1, hB.trans (hh.2.below.mono hB.size)⟩)
  have HC : Hid (∀ W, Below w0.heap.size w0 W → W.cell? ⟨w.heap.size, 0, none⟩ = some (.slice ad d.length cap) ∧ W.cell? ⟨w.heap.size, 1, none⟩ = some (.int .i64 most)) := Lib.hid (fun W hB => ⟨(b0.below hB).cell 0, (b0.below hB).cell 1⟩)
  have CA := Lib.hid (fun W => all_any (some ⟨g, 0, none⟩) W)
  have heq := fun b W => fn_eql b W
  have hw1 : IntKind.i64.wrap (most - (d.length : Int)) = most - (d.length : Int) := by rw [IntKind.wrap_i64]; omega
  obtain ⟨c0, c1⟩ := HC.out w0 (Below.refl _ _)
  have HI : Hid (∀ w2 wL, Below w0.heap.size w0 w2 → wL = (w2.alloc (.cells #[.pointer (some ⟨g, 0, none⟩)] 23)).alloc (.cells #[.int .i64 0] 3) → SameI ad d.length cap most g w2.heap.size w 0 wL ∧ wL.heap.size = w2.heap.size + 2 ∧ w.heap.size + 2 ≤ w2.heap.size) := Lib.hid (fun w2 wL hB hwL => by
    have hs := hB.size
    have hB2 : Below w0.heap.size w0 wL := by rw [hwL]; exact hB.trans (((box_below w2 _).alloc (by simp) _).mono hs)
    refine ⟨⟨hB0.trans (hB2.mono hB0.size), b0.below hB2, b1.below hB2, ?_, ?_⟩, by rw [hwL]; simp [World.size_alloc], by omega⟩
    · rw [hwL]; exact (Blk.new w2 _ _).alloc _
    · rw [hwL]
      have := Blk.new (w2.alloc (.cells #[.pointer (some ⟨g, 0, none⟩)] 23)) 3 #[.int .i64 0]
      rwa [World.size_alloc] at this)
  obtain ⟨n, hn⟩ : ∃ n, Hid (d.length = n) := ⟨_, Lib.hid rfl⟩
  rw [hn.out] at hw0 CL CR HC HI hw1 c0 hd ⊢
  unfold tval
  refine callsIn_of_wp_marks Try.func9 rfl trivial (wpIn_wide.2 ?_) rfl
  simp only [Try.ntmps9, List.size_toArray, List.length_cons, List.length_nil, Nat.reduceAdd, Nat.reduceSub, Array.replicate_succ, Array.replicate_zero, List.push_toArray, List.append_toArray, List.nil_append, List.cons_append]
  go_upto_region 1 with fail
  rw [← hw0.out]
  refine wp_region_noPanic ?_
  go_region_held_law (fun W => Below w0.heap.size w0 W ∧ W.cell? ⟨w.heap.size, 0, none⟩ = some (.slice ad n cap) ∧ W.cell? ⟨w.heap.size, 1, none⟩ = some (.int .i64 most)) ((refine ⟨?_, HC.out _ ?_⟩ <;> (first | assumption | exact (Below.refl _ _) | exact (Below.refl _ _).drew)))
    (first
      | (go_at_call 21; (with_reducible refine (CL.out _ ?_).mono ?_); (focus (first | assumption | exact (Below.refl _ _).drew | exact (‹Below w0.heap.size w0 _ ∧ _›).1)); rintro e w9 ⟨rfl, hB9⟩)
      | (go_at_call 22; (with_reducible refine (CR.out _ ?_).mono ?_); (focus (first | assumption | exact (Below.refl _ _).drew | exact (‹Below w0.heap.size w0 _ ∧ _›).1)); rintro e w8 ⟨rfl, hB8⟩))
  rename_i hHeld
  obtain ⟨hB2, -⟩ := hHeld
  have HB2 := Lib.hid hB2
  clear hB2 CL CR c0 c1 HC
  refine NoPanic.normal ?_
  go_wp2_with (go_at_call 16; refine (CA.out _).mono ?_; rintro e w' ⟨rfl, rfl⟩)
  obtain ⟨wL, hwL⟩ : ∃ wL, Hid (wL = (w8.alloc (.cells #[.pointer (some ⟨g, 0, none⟩)] 23)).alloc (.cells #[.int .i64 0] 3)) := ⟨_, Lib.hid rfl⟩
  rw [← hwL.out]
  obtain ⟨hI0, hsL, hs8⟩ := HI.out w8 wL HB2.out hwL.out
  have HTB : Hid (∀ W, Below w.heap.size w W → TabL W g most d F ∧ RdR W ad d) := Lib.hid (fun W hB => ⟨h.below hB, hr.below hB⟩)
  have HSTR := Lib.hid hstr
  have HD : Hid (d.length ≤ 1000000) := Lib.hid (by rw [hn.out]; exact hd)
  clear HI CA hB0 b0 b1 hr h hstr hwL HB2 hw0 hsz hw1
  refine wpIn_wide.1 (Rng.wpIn_range (F := Fence.wide) (n := 4) rfl (by decide) (gf := 37) (lb := #[.pointer (some ⟨w8.heap.size, 0, none⟩)]) rfl trivial (enters_of Try.func37 (by kernel_rfl) rfl)
    (N := d.length) (encs := encR d) (I := SameI ad n cap most g w8.heap.size w) (Ix := fun _ _ => False) (fun _ => rfl)
    (fun i W W' hi hB => hi.below hB (by omega) (by omega)) (fun _ _ _ hi _ => hi) hI0
    (fun W hW hi => all1_iter 3 (by decide) w8.heap.size g most d F _ W HD.out (HTB.out W hi.1).1 (fun i W1 hi1 => ⟨hi1.2.2.2.1.cell 0, most, d, F, (HTB.out W1 hi1.1).1, fun j _ hj => (dropI_look (pr := fun _ => false) (i := 0) HSTR.out (Nat.zero_le _) hj)⟩))
    (fun i W => { tmps := #[.pointer (some ⟨g, 0, none⟩), .agg #[.slice ad n cap, .int .i64 most], undef, .pointer (some ⟨w.heap.size, 0, none⟩), .pointer (some ⟨w.heap.size + 1, 0, none⟩), .func (.func 37) #[] #[.pointer (some ⟨w8.heap.size, 0, none⟩)], .pointer (some ⟨w8.heap.size + 1, 0, none⟩), .pointer (some ⟨W.heap.size, 0, none⟩), .int .i64 (rowAt d i).2, undef, undef, undef, .pointer (some ⟨g, 0, none⟩), .int .i64 n, .pointer (some ⟨w.heap.size, 0, none⟩), .slice ad n cap, .int .i64 n, .bool false, .bool false, .pointer (some ⟨g, 0, none⟩), .int .i64 (most - n), .pointer (some ⟨w.heap.size, 1, none⟩), .int .i64 most, .pointer (some ⟨w.heap.size, 0, none⟩), .slice ad n cap, .int .i64 n, .int .i64 (most - n), .bool false, .bool false, .pointer (some ⟨g, 0, none⟩), .func (.func 37) #[] #[.pointer (some ⟨w8.heap.size, 0, none⟩)], .func (.func 37) #[] #[.pointer (some ⟨w8.heap.size, 0, none⟩)], .bool false, .func (.func 37) #[] #[.pointer (some ⟨w8.heap.size, 0, none⟩)], kval (rowAt d i).1, .int .i64 (rowAt d i).2, undef, undef, undef, undef, undef, undef, undef, undef, undef, undef, undef, undef, undef, undef, undef, undef, undef, undef, undef, undef, undef, undef, undef, undef, undef, undef, undef, undef, undef, undef, undef, undef, undef, undef, undef, undef, undef, undef, undef, undef, undef, undef, undef, undef, undef, undef, undef, undef, undef, undef, undef, undef, undef, undef, undef, undef, undef, undef, undef, undef, undef, undef, undef, undef, undef, undef, undef, undef, undef, undef, undef, undef, undef, undef, undef, undef, undef, undef], defers := [] })
    (fun i W => W.alloc (.cells #[.int .i64 (rowAt d i).1.1, .int .i64 (rowAt d i).1.2.1, .int .u32 (rowAt d i).1.2.2] 34)) (fun i W => box_below _ _) ?assign ?body ?done ?stop)
  case assign =>
    intro l i W K hK
    unfold encR
    generalize rowAt d i = r at *
    obtain ⟨⟨p, q, s⟩, v⟩ := r
    unfold kval at *
    simp only at hK
    gi_wp2
    exact hK
  case body =>
    intro l i W W2 hiN hl1 hl2 hi hi2 hs2 hb2
    have hn2 : 1 ≤ 4 - 1 - 1 := by decide
    have bk : Blk W2 W.heap.size 34 #[.int .i64 (rowAt d i).1.1, .int .i64 (rowAt d i).1.2.1, .int .u32 (rowAt d i).1.2.2] := (hb2 _ (by omega)).trans (Blk.new W _ _)
    obtain ⟨t1, t2, t3, t4, t5⟩ := hi2
    obtain ⟨b, off, rfl, hb, hc⟩ := (HTB.out W2 t1).2.at_ (i := i) hiN
    rw [row_same hiN] at hc
    obtain ⟨f0, f1, f2, f3⟩ := at4 hc
    have k0 := bk.cell 0
    have k1 := bk.cell 1
    have k2 := bk.cell 2
    have s0 := t2.cell 0
    have i0 := t5.cell 0
    have hin : i < n := by rw [← hn.out]; exact hiN
    have hin' : ¬ ((n : Int) ≤ (i : Int)) := by omega
    have hin2 : decide (n ≤ i) = false := by simp; omega
    have he := eqK_refl7 (rowAt d i).1
    have hwi : IntKind.i64.wrap ((i : Int) + 1) = (i : Int) + 1 := by rw [IntKind.wrap_i64]; omega
    have HP : Hid (∀ W3, Below W2.heap.size W2 W3 → (W3.cell? ⟨w8.heap.size + 1, 0, none⟩ = some (.int .i64 (i : Nat)) ∧ W3.frozen? ⟨w8.heap.size + 1, 0, none⟩ = false) ∧ Rng.KeepNew wL.heap.size W2 (W3.setCell ⟨w8.heap.size + 1, 0, none⟩ (.int .i64 ((i : Int) + 1))) ∧ SameI (some ⟨b, off, none⟩) n cap most g w8.heap.size w (i + 1) (W3.setCell ⟨w8.heap.size + 1, 0, none⟩ (.int .i64 ((i : Int) + 1)))) := Lib.hid (fun W3 hBq => by
      have hs1 := t1.size
      have b5 := t5.below hBq
      have hB4 : ∀ v, Below (w.heap.size + 2) W3 (W3.setCell ⟨w8.heap.size + 1, 0, none⟩ v) := fun v => (Below.refl _ _).setCell (p := ⟨w8.heap.size + 1, 0, none⟩) (by show w.heap.size + 2 ≤ w8.heap.size + 1; omega) v
      have hlt5 := t5.lt
      refine ⟨⟨b5.cell 0, b5.free 0⟩, ⟨Nat.le_trans hBq.size (hB4 _).size, fun k hk hkl => ?_⟩, ?_⟩
      · rw [Below.heap_setCell _ _ _ _ (by show k ≠ w8.heap.size + 1; omega), hBq.block k hkl]
      · refine ⟨t1.trans ((hBq.mono hs1).trans ((hB4 _).mono (by omega))), (t2.below hBq).far (by show w.heap.size ≠ w8.heap.size + 1; omega) _, (t3.below hBq).far (by show w.heap.size + 1 ≠ w8.heap.size + 1; omega) _, (t4.below hBq).far (by show w8.heap.size ≠ w8.heap.size + 1; omega) _, b5.put 0 _⟩)
    clear bk t1 t2 t3 t4 t5 hi hb2 hc hs2 HTB hI0
    generalize rowAt d i = r at *
    obtain ⟨⟨p, q, s⟩, v⟩ := r
    unfold kval at *
    simp only at f0 f1 f2 f3 k0 k1 k2 he
    gi_wp2
    refine Qui.wpIn_region_quiet_round (by kernel_rfl) (by kernel_rfl) (by kernel_rfl) ?_
    repeat (gi_big_quiet_step (fail))
    refine wpQuietIn_nil ?_
    intro _ hw'
    obtain ⟨nq, hw''⟩ := hw'
    subst hw''
    obtain ⟨⟨z0, z1⟩, hp2⟩ := HP.out (W2.drewN nq) ⟨rfl, rfl, rfl, Nat.le_refl _, fun _ _ => rfl⟩
    have HP2 := Lib.hid hp2
    clear hp2
    gi_wp2
    exact HP2.out
  case done =>
    intro W hW hi hK
    obtain ⟨t1, t2, t3, t4, t5⟩ := hi
    obtain ⟨hT, hR⟩ := HTB.out W t1
    have CM := Lib.hid (min_any g most d F W hT HD.out)
    rw [hn.out] at t5
    -- in whatever world that comes of it: the boxes, the end
    have HK : Hid (∀ W', Below W.heap.size W W' → (W'.cell? ⟨w.heap.size, 0, none⟩ = some (.slice ad n cap) ∧ W'.cell? ⟨w8.heap.size + 1, 0, none⟩ = some (.int .i64 n)) ∧ (W'.cell? ⟨w.heap.size + 1, 0, none⟩ = some (.bool false) ∧ W'.frozen? ⟨w.heap.size + 1, 0, none⟩ = false) ∧ RdR W' ad d) := Lib.hid (fun W' hB => by
      have q2 := t2.below hB
      have q3 := t3.below hB
      have q5 := t5.below hB
      exact ⟨⟨q2.cell 0, q5.cell 0⟩, ⟨q3.cell 0, q3.free 0⟩, hR.below hB⟩)
    have HE : Hid (∀ W', Below W.heap.size W W' → Below w.heap.size w ((W'.setCell ⟨w.heap.size + 1, 0, none⟩ (.bool true)).putObj (wL.heap.size) (.deferred none)) ∧ (W'.setCell ⟨w.heap.size + 1, 0, none⟩ (.bool true)).heap[wL.heap.size]? = some (.deferred (some [])) ∧ ((W'.setCell ⟨w.heap.size + 1, 0, none⟩ (.bool true)).putObj (wL.heap.size) (.deferred none)).cell? ⟨w.heap.size + 1, 0, none⟩ = some (.bool true)) := Lib.hid (fun W' hB => by
      have q3 := (t3.below hB).put 0 (.bool true)
      have hbb := Rng.below_put (m := wL.heap.size) (W'.setCell ⟨w.heap.size + 1, 0, none⟩ (.bool true)) (.deferred none) (Nat.le_refl _)
      refine ⟨((t1.trans (hB.mono t1.size)).setCell (p := ⟨w.heap.size + 1, 0, none⟩) (by simp) _).trans (hbb.mono (by omega)), ?_, ?_⟩
      · rw [Below.heap_setCell _ _ _ _ (by show wL.heap.size ≠ w.heap.size + 1; omega)]
        exact (hB.block _ hW).trans hK
      · exact (q3.below2 hbb (by omega)).cell 0)
    clear t1 t2 t3 t4 t5 hT hR hI0 HTB hK heq
    have he0 := eqK_refl7 (0, 0, 0)
    cases d with
    | nil =>
      obtain rfl : n = 0 := by rw [← hn.out]; rfl
      have HKn := Lib.hid (fun W' hB => (HK.out W' hB).1)
      have HKf := Lib.hid (fun W' hB => (HK.out W' hB).2.1)
      have HXB : Hid (∀ w5, Below W.heap.size W w5 → Below W.heap.size W (w5.alloc (.cells #[.int .i64 0, .int .i64 0, .int .u32 0] 34)) ∧ (w5.alloc (.cells #[.int .i64 0, .int .i64 0, .int .u32 0] 34)).cell? ⟨w5.heap.size, 0, none⟩ = some (.int .i64 0) ∧ (w5.alloc (.cells #[.int .i64 0, .int .i64 0, .int .u32 0] 34)).cell? ⟨w5.heap.size, 1, none⟩ = some (.int .i64 0) ∧ (w5.alloc (.cells #[.int .i64 0, .int .i64 0, .int .u32 0] 34)).cell? ⟨w5.heap.size, 2, none⟩ = some (.int .u32 0)) := Lib.hid (fun w5 h5 => by
        have b := Blk.new w5 34 #[.int .i64 0, .int .i64 0, .int .u32 0]
        exact ⟨h5.trans ((box_below _ _).mono h5.size), b.cell 0, b.cell 1, b.cell 2⟩)
      unfold minK minV some1 kval at CM
      simp only [List.isEmpty_nil, Bool.not_true] at CM
      go_wp2_with (go_at_call 19; refine (CM.out).mono ?_; rintro e w5 ⟨rfl, hB5⟩; obtain ⟨hB6, k0, k1, k2⟩ := HXB.out w5 hB5; have HB6 := Lib.hid hB6; clear hB5 hB6; obtain ⟨a0, a1⟩ := HKn.out _ HB6.out; obtain ⟨f0, f1⟩ := HKf.out _ HB6.out)
      obtain ⟨e1, e2, e3⟩ := HE.out _ HB6.out
      rw [hsL] at e1 e2 e3
      refine ⟨by simp, .inl ⟨_, _, rfl, run_takeDeferred e2, ?_⟩⟩
      exact ⟨.bool true, by simp [results, Try.results9, go_sem, e3], rfl, e1⟩
    | cons r d =>
      have hnn : d.length + 1 = n := hn.out
      have hn0 : (0 : Int) < (n : Int) := by omega
      have hn1 : ((n : Int) == 0) = false := by simp; omega
      have hn2 : 0 < n := by omega
      have HR0 : Hid (∃ b off, ad = some ⟨b, off, none⟩ ∧ ∀ W', Below W.heap.size W W' → W'.cell? ⟨b, off, none⟩ = some (.int .i64 r.1.1) ∧ W'.cell? ⟨b, off + 1, none⟩ = some (.int .i64 r.1.2.1) ∧ W'.cell? ⟨b, off + 2, none⟩ = some (.int .u32 r.1.2.2) ∧ W'.cell? ⟨b, off + 3, none⟩ = some (.int .i64 r.2)) := Lib.hid (by
        obtain ⟨b, off, e, hb, hc⟩ := (HK.out W (Below.refl _ _)).2.2.at_ (i := 0) (by simp)
        refine ⟨b, off, e, fun W' hB => ?_⟩
        have h4 := at4 (hc.below hB hb)
        simpa using h4)
      obtain ⟨b, off, rfl, hr0⟩ := HR0.out
      have HRZ := Lib.hid hr0
      have HKn := Lib.hid (fun W' hB => (HK.out W' hB).1)
      have HKf := Lib.hid (fun W' hB => (HK.out W' hB).2.1)
      have he := eqK_refl7 r.1
      clear hr0 HR0 HK hnn
      unfold minK minV some1 at CM
      simp only [List.isEmpty_cons, Bool.not_false] at CM
      obtain ⟨⟨p, q, s⟩, v⟩ := r
      have HXB : Hid (∀ w5, Below W.heap.size W w5 → Below W.heap.size W (w5.alloc (.cells #[.int .i64 p, .int .i64 q, .int .u32 s] 34)) ∧ (w5.alloc (.cells #[.int .i64 p, .int .i64 q, .int .u32 s] 34)).cell? ⟨w5.heap.size, 0, none⟩ = some (.int .i64 p) ∧ (w5.alloc (.cells #[.int .i64 p, .int .i64 q, .int .u32 s] 34)).cell? ⟨w5.heap.size, 1, none⟩ = some (.int .i64 q) ∧ (w5.alloc (.cells #[.int .i64 p, .int .i64 q, .int .u32 s] 34)).cell? ⟨w5.heap.size, 2, none⟩ = some (.int .u32 s)) := Lib.hid (fun w5 h5 => by
        have b := Blk.new w5 34 #[.int .i64 p, .int .i64 q, .int .u32 s]
        exact ⟨h5.trans ((box_below _ _).mono h5.size), b.cell 0, b.cell 1, b.cell 2⟩)
      unfold kval at CM
      simp only at CM HRZ he
      go_wp2_with (go_at_call 19; refine (CM.out).mono ?_; rintro e w5 ⟨rfl, hB5⟩; obtain ⟨hB6, k0, k1, k2⟩ := HXB.out w5 hB5; have HB6 := Lib.hid hB6; clear hB5 hB6; obtain ⟨a0, a1⟩ := HKn.out _ HB6.out; obtain ⟨f0, f1⟩ := HKf.out _ HB6.out; obtain ⟨g0, g1, g2, g3⟩ := HRZ.out _ HB6.out)
      go_region
      go_wp2_with fail
      obtain ⟨e1, e2, e3'⟩ := HE.out _ HB6.out.drew
      rw [hsL] at e1 e2 e3'
      have e3 : (((w5.alloc (.cells #[.int .i64 p, .int .i64 q, .int .u32 s] 34)).setCell ⟨w.heap.size + 1, 0, none⟩ (.bool true)).drew.putObj (w8.heap.size + 2) (.deferred none)).cell? ⟨w.heap.size + 1, 0, none⟩ = some (.bool true) := e3'
      refine ⟨by simp, .inl ⟨_, _, rfl, run_takeDeferred e2, ?_⟩⟩
      exact ⟨.bool true, by simp [results, Try.results9, go_sem, e3], rfl, e1⟩
  case stop =>
    intro c W _ hi _
    exact hi.elim
end Go.Proofs.Ytolcidilnmjlmaa.TblL
