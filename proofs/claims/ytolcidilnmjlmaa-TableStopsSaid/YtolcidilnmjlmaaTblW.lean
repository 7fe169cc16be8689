/- The chapter's example (layer 7). -/
import Derived.Test.YtolcidilnmjlmaaTbnK
namespace Go.Proofs.Ytolcidilnmjlmaa.TblN
open Go.ChangeShapes Go.WideShapes Go.ChangeAt Go.RowKit Go.Sort
open Go.Proofs.Ytolcidilnmjlmaa.Key Go.Proofs.Ytolcidilnmjlmaa.Rw Go.Proofs.Ytolcidilnmjlmaa.Tbl
set_option linter.unusedVariables false
set_option linter.unusedSimpArgs false
/-- The example's table, its two keys, at some point. -/
def Ex (w : World) (g A : Nat) (d : List Row) (W : World) : Prop :=
  ∃ F, TabN W g 1 d F ∧ (∀ j, F j → w.heap.size ≤ j ∧ j < W.heap.size ∧ j ≠ A ∧ j ≠ A + 1) ∧ Blk W A 34 #[.int .i64 2, .int .i64 0, .int .u32 0] ∧ Blk W (A + 1) 34 #[.int .i64 1, .int .i64 0, .int .u32 0] ∧ Below w.heap.size w W
theorem Ex.gr {w W W' : World} {g A : Nat} {d : List Row} (h : Ex w g A d W) (hG : Below W.heap.size W W') : Ex w g A d W' := by
  obtain ⟨F, h1, h2, h3, h4, h5⟩ := h
  exact ⟨F, h1.below hG, fun j hj => by have := h2 j hj; have := hG.size; omega, h3.below hG, h4.below hG, h5.trans (hG.mono h5.size)⟩
theorem Ex.post {w W W' : World} {g A : Nat} {d d' : List Row} {F : Nat → Prop} (h1 : TabN W g 1 d F) (h2 : ∀ j, F j → w.heap.size ≤ j ∧ j < W.heap.size ∧ j ≠ A ∧ j ≠ A + 1) (h3 : Blk W A 34 #[.int .i64 2, .int .i64 0, .int .u32 0]) (h4 : Blk W (A + 1) 34 #[.int .i64 1, .int .i64 0, .int .u32 0]) (h5 : Below w.heap.size w W)
    (hp : TabPost g 1 d' F W W') : Ex w g A d' W' := by
  obtain ⟨p1, p2⟩ := hp
  have hs := p2.size
  have hs5 := h5.size
  have l3 := h3.lt
  have l4 := h4.lt
  refine ⟨_, p1, fun j hj => ?_, h3.stay p2 (fun e => (h2 _ e).2.2.1 rfl), h4.stay p2 (fun e => (h2 _ e).2.2.2 rfl), h5.trans (p2.below (fun j hj => (h2 j hj).1) hs5)⟩
  rcases hj with hj | ⟨hj1, hj2⟩
  · have := h2 j hj; omega
  · omega
theorem Ex.put {w W : World} {g A : Nat} {d : List Row} (h : Ex w g A d W) (k : Ky) (v : Int) (hk : ok k) (hd : d.length ≤ 255) :
    Calls Try.prog 30 #[.pointer (some ⟨g, 0, none⟩), kval k, .int .i64 v] W fun e w' => e = .returned (.int .i64 (putE 1 d k)) ∧ Ex w g A (putD 1 d k v) w' := by
  obtain ⟨F, h1, h2, h3, h4, h5⟩ := h
  exact (put_any k v hk g 1 d F W h1 (by decide) hd).mono fun e w' hh => ⟨hh.1, Ex.post h1 h2 h3 h4 h5 hh.2⟩
theorem Ex.pop {w W : World} {g A : Nat} {d : List Row} (h : Ex w g A d W) (hd : d.length ≤ 255) :
    Calls Try.prog 31 #[.pointer (some ⟨g, 0, none⟩)] W fun e w' => e = .returned (.tuple #[kval (minK d), .int .i64 (minV d), .bool (some1 d)]) ∧ Ex w g A d.tail w' := by
  obtain ⟨F, h1, h2, h3, h4, h5⟩ := h
  exact (pop_any g 1 d F W h1 (fun j hj => (h2 j hj).2.1) (by omega)).mono fun e w' hh => ⟨hh.1, Ex.post h1 h2 h3 h4 h5 hh.2.post⟩
theorem Ex.len {w W : World} {g A : Nat} {d : List Row} (h : Ex w g A d W) :
    Calls Try.prog 32 #[.pointer (some ⟨g, 0, none⟩)] W fun e w' => e = .returned (.int .i64 (d.length : Nat)) ∧ W = w' := by
  obtain ⟨F, h1, h2, h3, h4, h5⟩ := h
  exact len_any g 1 d F W h1
theorem okA : ok (2, 0, 0) := by unfold ok; decide
theorem okB : ok (1, 0, 0) := by unfold ok; decide
set_option maxRecDepth 100000 in
theorem works7_any (w : World) : Calls Try.prog 11 #[] w fun e w' => e = .returned (.bool true) ∧ Below w.heap.size w w' := by
  have CN := Lib.hid (new_any 1 w)
  go_enter Try.func11, Try.ntmps11
  go_wp2_with fail
  refine (CN.out).mono ?_; rintro e w1 ⟨g, rfl, hT, hB1⟩
  have hX : Hid (Ex w g w1.heap.size [] ((w1.alloc (.cells #[.int .i64 2, .int .i64 0, .int .u32 0] 34)).alloc (.cells #[.int .i64 1, .int .i64 0, .int .u32 0] 34))) := Lib.hid (by
    have hs := hB1.size
    have hB : Below w1.heap.size w1 ((w1.alloc (.cells #[.int .i64 2, .int .i64 0, .int .u32 0] 34)).alloc (.cells #[.int .i64 1, .int .i64 0, .int .u32 0] 34)) := (box_below _ _).alloc (by simp) _
    have hm : clampM 1 = 1 := by decide
    rw [hm] at hT
    refine ⟨_, hT.below hB, fun j hj => ?_, (Blk.new w1 _ _).alloc _, ?_, hB1.trans (hB.mono hs)⟩
    · have := hB.size; omega
    · have := Blk.new (w1.alloc (.cells #[.int .i64 2, .int .i64 0, .int .u32 0] 34)) 34 #[.int .i64 1, .int .i64 0, .int .u32 0]
      rw [World.size_alloc] at this
      exact this)
  clear hT hB1 CN
  obtain ⟨wE, hwE⟩ : ∃ wE, Hid (wE = (w1.alloc (.cells #[.int .i64 2, .int .i64 0, .int .u32 0] 34)).alloc (.cells #[.int .i64 1, .int .i64 0, .int .u32 0] 34)) := ⟨_, Lib.hid rfl⟩
  rw [← hwE.out] at hX
  have C1 : Hid (∀ W, Ex w g w1.heap.size [] W → Calls Try.prog 30 #[.pointer (some ⟨g, 0, none⟩), .agg #[.int .i64 2, .int .i64 0, .int .u32 0], .int .i64 7] W fun e w' => e = .returned (.int .i64 0) ∧ Ex w g w1.heap.size [((2, 0, 0), 7)] w') := Lib.hid (fun W h => h.put (2, 0, 0) 7 okA (by decide))
  have C2 : Hid (∀ W, Ex w g w1.heap.size [((2, 0, 0), 7)] W → Calls Try.prog 30 #[.pointer (some ⟨g, 0, none⟩), .agg #[.int .i64 1, .int .i64 0, .int .u32 0], .int .i64 8] W fun e w' => e = .returned (.int .i64 13) ∧ Ex w g w1.heap.size [((2, 0, 0), 7)] w') := Lib.hid (fun W h => h.put (1, 0, 0) 8 okB (by decide))
  have C3 : Hid (∀ W, Ex w g w1.heap.size [((2, 0, 0), 7)] W → Calls Try.prog 30 #[.pointer (some ⟨g, 0, none⟩), .agg #[.int .i64 2, .int .i64 0, .int .u32 0], .int .i64 9] W fun e w' => e = .returned (.int .i64 12) ∧ Ex w g w1.heap.size [((2, 0, 0), 7)] w') := Lib.hid (fun W h => h.put (2, 0, 0) 9 okA (by decide))
  have CP : Hid (∀ W, Ex w g w1.heap.size [((2, 0, 0), 7)] W → Calls Try.prog 31 #[.pointer (some ⟨g, 0, none⟩)] W fun e w' => e = .returned (.tuple #[.agg #[.int .i64 2, .int .i64 0, .int .u32 0], .int .i64 7, .bool true]) ∧ Ex w g w1.heap.size [] w') := Lib.hid (fun W h => h.pop (by decide))
  have CL : Hid (∀ W, Ex w g w1.heap.size [] W → Calls Try.prog 32 #[.pointer (some ⟨g, 0, none⟩)] W fun e w' => e = .returned (.int .i64 0) ∧ W = w') := Lib.hid (fun W h => h.len)
  have HC : Hid (∀ d W, Ex w g w1.heap.size d W → (W.cell? ⟨w1.heap.size, 0, none⟩ = some (.int .i64 2) ∧ W.cell? ⟨w1.heap.size, 1, none⟩ = some (.int .i64 0) ∧ W.cell? ⟨w1.heap.size, 2, none⟩ = some (.int .u32 0)) ∧
      (W.cell? ⟨w1.heap.size + 1, 0, none⟩ = some (.int .i64 1) ∧ W.cell? ⟨w1.heap.size + 1, 1, none⟩ = some (.int .i64 0) ∧ W.cell? ⟨w1.heap.size + 1, 2, none⟩ = some (.int .u32 0))) := Lib.hid (fun d W h => by
    obtain ⟨F, -, -, h3, h4, -⟩ := h
    exact ⟨⟨h3.cell 0, h3.cell 1, h3.cell 2⟩, h4.cell 0, h4.cell 1, h4.cell 2⟩)
  go_upto_region 3 with fail
  rw [← hwE.out]
  have hX1 := hX.out.gr (Below.refl _ _).drew
  obtain ⟨⟨c0, c1, c2⟩, d0, d1, d2⟩ := HC.out _ _ hX.out
  refine wp_region_noPanic ?_
  go_region_held_law (fun W => (W.cell? ⟨w1.heap.size, 0, none⟩ = some (.int .i64 2) ∧ W.cell? ⟨w1.heap.size, 1, none⟩ = some (.int .i64 0) ∧ W.cell? ⟨w1.heap.size, 2, none⟩ = some (.int .u32 0)) ∧
      (W.cell? ⟨w1.heap.size + 1, 0, none⟩ = some (.int .i64 1) ∧ W.cell? ⟨w1.heap.size + 1, 1, none⟩ = some (.int .i64 0) ∧ W.cell? ⟨w1.heap.size + 1, 2, none⟩ = some (.int .u32 0))) ((first | exact HC.out _ _ hX4 | exact HC.out _ _ hX3 | exact HC.out _ _ hX2 | exact HC.out _ _ hX1))
    (first
      | (go_at_call 30; (with_reducible refine (C1.out _ hX1).mono ?_); rintro e w2 ⟨rfl, hX2⟩)
      | (go_at_call 30; (with_reducible refine (C2.out _ hX2).mono ?_); rintro e w3 ⟨rfl, hX3⟩)
      | (go_at_call 30; (with_reducible refine (C3.out _ hX3).mono ?_); rintro e w4 ⟨rfl, hX4⟩))
  rename_i hHeld
  have HX4 := Lib.hid hX4
  clear hHeld hX1 hX2 hX3 hX4 c0 c1 c2 d0 d1 d2 C1 C2 C3
  refine NoPanic.normal ?_
  go_wp2_with fail
  refine (CP.out _ HX4.out).mono ?_; rintro e w5 ⟨rfl, hX5⟩
  have HB5 : Hid ((w5.alloc (.cells #[.int .i64 2, .int .i64 0, .int .u32 0] 34)).cell? ⟨w5.heap.size, 0, none⟩ = some (.int .i64 2) ∧ (w5.alloc (.cells #[.int .i64 2, .int .i64 0, .int .u32 0] 34)).cell? ⟨w5.heap.size, 1, none⟩ = some (.int .i64 0) ∧ (w5.alloc (.cells #[.int .i64 2, .int .i64 0, .int .u32 0] 34)).cell? ⟨w5.heap.size, 2, none⟩ = some (.int .u32 0)) := Lib.hid (by
    have b := Blk.new w5 34 #[.int .i64 2, .int .i64 0, .int .u32 0]
    exact ⟨b.cell 0, b.cell 1, b.cell 2⟩)
  have hX6 := hX5.gr (box_below w5 (.cells #[.int .i64 2, .int .i64 0, .int .u32 0] 34))
  obtain ⟨⟨c0, c1, c2⟩, -⟩ := HC.out _ _ hX6
  obtain ⟨k0, k1, k2⟩ := HB5.out
  have CLk := Lib.hid (CL.out _ hX6)
  have HX6 := Lib.hid hX6
  have he : eqK (2, 0, 0) (2, 0, 0) = true := by decide
  clear hX5 hX6
  go_wp2_with fail
  refine (CLk.out).mono ?_; rintro e w6 ⟨rfl, rfl⟩
  go_wp2_with fail
  go_ret
  obtain ⟨F, -, -, -, -, h⟩ := HX6.out
  exact ⟨rfl, h⟩
end Go.Proofs.Ytolcidilnmjlmaa.TblN
