/- A call of both tables, walked (layer 7). -/
import Derived.Test.YtolcidilnmjlmaaTblSE
import Derived.Test.YtolcidilnmjlmaaTblSA
import Derived.Deep.CutRange
import Derived.Deep.CutBlock
import Derived.Deep.RegionWith
import Derived.Deep.RegionHeldLaw
namespace Go.Proofs.Ytolcidilnmjlmaa.TblL
open Go.ChangeShapes Go.WideShapes Go.ChangeAt Go.RowKit Go.Sort Go.Shelf
open Go.Proofs.Ytolcidilnmjlmaa.Key Go.Proofs.Ytolcidilnmjlmaa.Rw Go.Proofs.Ytolcidilnmjlmaa.Tbl
open Go.Proofs.Ytolcidilnmjlmaa.TblR (encW encW_len RdR OwnR tval at4 atR)
set_option linter.unusedVariables false
set_option linter.unusedSimpArgs false
attribute [local go_sem] Oper.semAt_some
theorem putD_one {most : Int} (d : List Row) (k : Ky) (v : Int) : (putD most d k v).length ≤ d.length + 1 := by
  unfold putD
  split
  · omega
  · split
    · omega
    · rw [put_len]; omega
theorem putD_le {most v : Int} {d : List Row} {k : Ky} (h : (d.length : Int) ≤ most) : ((putD most d k v).length : Int) ≤ most := by
  unfold putD
  split
  · exact h
  · split
    · exact h
    · rw [put_len]; omega
def actV (kd : Nat) (k : Ky) (v : Int) : Value := .agg #[.int .u8 kd, .int .i64 k.1, .int .i64 k.2.1, .int .u32 k.2.2, .int .i64 v]
/-- The boxes that the call begins with. -/
theorem one_start {B w w0 : World} {g e cap : Nat} {most : Int} {d : List Row} {ad : Option Addr} {kd : Nat} {k : Ky} {v : Int} (h : PairS B g most d d ad cap e w)
    (hw : w0 = ((w.alloc (.cells #[.slice ad d.length cap, .int .i64 most] 27)).alloc (.cells #[.int .u8 kd, .int .i64 k.1, .int .i64 k.2.1, .int .u32 k.2.2, .int .i64 v] 36)).alloc (.cells #[.slice none 0 0, .int .i64 0] 27)) :
    One ⟨B, g, most, d, ad, cap, e, w.heap.size, w.heap.size + 3⟩ (.slice ad d.length cap) (.int .i64 most) (.slice none 0 0) (.int .i64 0) kd k v d d ad cap w0 := by
  have hB : Below w.heap.size w w0 := by rw [hw]; exact ((box_below _ _).alloc (by simp) _).alloc (by simp <;> omega) _
  refine ⟨Two.start h hB (by rw [hw]; simp [World.size_alloc]), rfl, ?_, ?_, ?_⟩
  · rw [hw]; exact ((Blk.new w _ _).alloc _).alloc _
  · rw [hw]
    have := Blk.new (w.alloc (.cells #[.slice ad d.length cap, .int .i64 most] 27)) 36 #[.int .u8 kd, .int .i64 k.1, .int .i64 k.2.1, .int .u32 k.2.2, .int .i64 v]
    rw [World.size_alloc] at this
    exact this.alloc _
  · rw [hw]
    have := Blk.new ((w.alloc (.cells #[.slice ad d.length cap, .int .i64 most] 27)).alloc (.cells #[.int .u8 kd, .int .i64 k.1, .int .i64 k.2.1, .int .u32 k.2.2, .int .i64 v] 36)) 27 #[.slice none 0 0, .int .i64 0]
    rw [World.size_alloc, World.size_alloc] at this
    exact this
/-- What holds all the way through the region that compares what was popped with the first row. -/
structure PopS (c : Cx) (kd : Nat) (k : Ky) (v : Int) (d l : List Row) (ad : Option Addr) (cap : Nat) (p s u x : Int) (m : Nat) (W : World) : Prop where
  one : ∃ r0 r1, One c (.slice ad l.length cap) (.int .i64 c.most) r0 r1 kd k v d l ad cap W
  hkb : Blk W m 34 #[.int .i64 p, .int .i64 s, .int .u32 u]
  hxb : Blk W (m + 1) 63 #[.int .i64 p, .int .i64 s, .int .u32 u, .int .i64 x]
  hm : c.lo + 1 + 1 < m
section
variable {c : Cx} {kd : Nat} {k : Ky} {v : Int} {d l : List Row} {ad : Option Addr} {cap : Nat} {p s u x : Int} {m : Nat} {W W' : World}
theorem PopS.below (h : PopS c kd k v d l ad cap p s u x m W) (hB : Below W.heap.size W W') : PopS c kd k v d l ad cap p s u x m W' := by
  obtain ⟨⟨r0, r1, h1⟩, h2, h3, h4⟩ := h
  exact ⟨⟨r0, r1, h1.below hB⟩, h2.below hB, h3.below hB, h4⟩
theorem PopS.answer (h : PopS c kd k v d l ad cap p s u x m W) (u0 u1 : Value) : PopS c kd k v d l ad cap p s u x m ((W.setCell ⟨c.lo + 1 + 1, 0, none⟩ u0).setCell ⟨c.lo + 1 + 1, 1, none⟩ u1) := by
  obtain ⟨⟨r0, r1, h1⟩, h2, h3, h4⟩ := h
  exact ⟨⟨u0, u1, h1.answer u0 u1⟩, (h2.far (by simp only; omega) _).far (by simp only; omega) _, (h3.far (by simp only; omega) _).far (by simp only; omega) _, h4⟩
theorem PopS.start {w2 : World} {r0 r1 : Value} (h : One c (.slice ad l.length cap) (.int .i64 c.most) r0 r1 kd k v d l ad cap (w2.alloc (.cells #[.int .i64 p, .int .i64 s, .int .u32 u] 34))) (hlt : c.lo + 1 + 1 < w2.heap.size)
    (hW : W = (w2.alloc (.cells #[.int .i64 p, .int .i64 s, .int .u32 u] 34)).alloc (.cells #[.int .i64 p, .int .i64 s, .int .u32 u, .int .i64 x] 63)) : PopS c kd k v d l ad cap p s u x w2.heap.size W := by
  subst hW
  refine ⟨⟨r0, r1, h.below (box_below _ _)⟩, (Blk.new w2 _ _).alloc _, ?_, hlt⟩
  have := Blk.new (w2.alloc (.cells #[.int .i64 p, .int .i64 s, .int .u32 u] 34)) 63 #[.int .i64 p, .int .i64 s, .int .u32 u, .int .i64 x]
  rwa [World.size_alloc] at this
theorem PopS.cells (h : PopS c kd k v d l ad cap p s u x m W) : (W.cell? ⟨c.lo, 0, none⟩ = some (.slice ad l.length cap) ∧ W.cell? ⟨c.lo, 1, none⟩ = some (.int .i64 c.most)) ∧ (W.cell? ⟨m, 0, none⟩ = some (.int .i64 p) ∧ W.cell? ⟨m, 1, none⟩ = some (.int .i64 s) ∧ W.cell? ⟨m, 2, none⟩ = some (.int .u32 u)) ∧
    (W.cell? ⟨m + 1, 0, none⟩ = some (.int .i64 p) ∧ W.cell? ⟨m + 1, 1, none⟩ = some (.int .i64 s) ∧ W.cell? ⟨m + 1, 2, none⟩ = some (.int .u32 u) ∧ W.cell? ⟨m + 1, 3, none⟩ = some (.int .i64 x)) ∧ W.frozen? ⟨c.lo + 1 + 1, 0, none⟩ = false ∧ W.frozen? ⟨c.lo + 1 + 1, 1, none⟩ = false ∧ (∃ r0, W.cell? ⟨c.lo + 1 + 1, 0, none⟩ = some r0) ∧ ∃ r1, W.cell? ⟨c.lo + 1 + 1, 1, none⟩ = some r1 := by
  obtain ⟨⟨r0, r1, h1⟩, h2, h3, h4⟩ := h
  exact ⟨⟨h1.t.cell 0, h1.t.cell 1⟩, ⟨h2.cell 0, h2.cell 1, h2.cell 2⟩, ⟨h3.cell 0, h3.cell 1, h3.cell 2, h3.cell 3⟩, h1.r.free 0, h1.r.free 1, ⟨r0, h1.r.cell 0⟩, ⟨r1, h1.r.cell 1⟩⟩
theorem PopS.del {r : Row} (h : PopS c kd k v d (r :: d) ad cap p s u x m W) (hl : d.length ≤ 100) :
    Calls Try.prog 26 #[.agg #[.slice ad (d.length + 1) cap, .int .i64 c.most], .int .i64 0] W fun z w' => ∃ ad2 cap2, z = .returned (.agg #[.slice ad2 d.length cap2, .int .i64 c.most]) ∧ PopS c kd k v d (r :: d) ad cap p s u x m w' ∧ ∃ r0 r1, One c (.slice ad (r :: d).length cap) (.int .i64 c.most) r0 r1 kd k v d d ad2 cap2 w' := by
  have h0 := h
  obtain ⟨⟨r0, r1, h1⟩, h2, h3, h4⟩ := h
  refine (h1.rdelB (by simp; omega) (i := 0) (by simp)).mono fun z w' hh => ?_
  obtain ⟨ad2, cap2, hx, ho, hB⟩ := hh
  exact ⟨ad2, cap2, hx, h0.below hB, r0, r1, ho⟩
end
set_option maxRecDepth 100000 in
set_option maxHeartbeats 4000000 in
theorem one_any (B : World) (g e cap : Nat) (most : Int) (d : List Row) (ad : Option Addr) (kd : Nat) (k : Ky) (v : Int) (w : World) (h : PairS B g most d d ad cap e w) (hk : ok k) (hkd : kd < 256) (hm : 0 ≤ most ∧ most ≤ 65536) (hd : d.length ≤ 100) (hdm : (d.length : Int) ≤ most) :
    Calls Try.prog 10 #[.pointer (some ⟨g, 0, none⟩), tval ad d.length cap most, actV kd k v] w (OnePost B g most d e) := by
  obtain ⟨w0, hw0⟩ : ∃ w0, Hid (w0 = ((w.alloc (.cells #[.slice ad d.length cap, .int .i64 most] 27)).alloc (.cells #[.int .u8 kd, .int .i64 k.1, .int .i64 k.2.1, .int .u32 k.2.2, .int .i64 v] 36)).alloc (.cells #[.slice none 0 0, .int .i64 0] 27)) := ⟨_, Lib.hid rfl⟩
  have HO := Lib.hid (one_start h hw0.out)
  have HS := Lib.hid h.str
  have CA := Lib.hid (HO.out.rat (by omega))
  obtain ⟨⟨a0, a1⟩, ⟨b0, b1, b2, b3, b4⟩, -, ⟨f0, f1⟩, g0, g1⟩ := HO.out.cells
  obtain ⟨q, hq⟩ : ∃ q : Nat, Hid (kd % 6 = q) := ⟨_, Lib.hid rfl⟩
  have hqm : Int.tmod (kd : Int) 6 = (q : Int) := by rw [← hq.out, Int.tmod_eq_emod_of_nonneg (by omega)]; omega
  have hq6 : q < 6 := by rw [← hq.out]; omega
  clear h
  unfold tval actV
  unfold tval kval at CA
  simp only at CA a0 a1 b0 b1 b2 b3 b4 f0 f1 g0 g1
  go_enter Try.func10, Try.ntmps10
  go_upto_region 1 with fail
  rw [← hw0.out]
  generalize w.heap.size = lo at *
  go_upto_region 3 with (go_at_call 25; refine (CA.out).mono ?_; rintro e' w1 ⟨rfl, hO1⟩; obtain ⟨⟨x0, x1⟩, ⟨y0, y1, y2, y3, y4⟩, -, ⟨z0, z1⟩, u0, u1⟩ := hO1.cells; have HO1 := Lib.hid hO1; clear hO1; simp only at x0 x1 y0 y1 y2 y3 y4 z0 z1 u0 u1)
  clear CA a0 a1 b0 b1 b2 b3 b4 f0 f1 g0 g1 hw0 HO
  have hcases : q = 0 ∨ q = 1 ∨ q = 2 ∨ q = 3 ∨ q = 4 ∨ q = 5 := by omega
  rcases hcases with rfl | rfl | rfl | rfl | rfl | rfl
  · have CP := Lib.hid (HO1.out.put hk (by omega) hm)
    unfold kval at CP
    simp only at CP
    go_wp2_with (first
      | (go_at_call 12; refine (CP.out).mono ?_; rintro e' w2 ⟨rfl, hO2⟩; obtain ⟨⟨i0, i1⟩, ⟨j0, j1, j2, j3, j4⟩, -, -, k0, k1⟩ := hO2.cells; have CR := Lib.hid (hO2.rput (by omega) hdm); clear hO2; unfold tval kval at CR; simp only at CR i0 i1 j0 j1 j2 j3 j4 k0 k1)
      | (go_at_call 15; refine (CR.out).mono ?_; rintro e' w3 ⟨ad2, cap2, rfl, hO3⟩; have HO4 := Lib.hid (hO3.below (box_below w3 (.cells #[.slice ad2 (putD most d k v).length cap2, .int .i64 most] 27))); obtain ⟨-, -, ⟨q0, q1⟩, -, p0, p1⟩ := HO4.out.cells; clear hO3; simp only at p0 p1 q0 q1))
    have HO5 := HO4.out.answer (.slice ad2 (putD most d k v).length cap2) (.int .i64 most)
    obtain ⟨-, -, ⟨r0, r1⟩, -⟩ := HO5.cells
    simp only at r0 r1
    exact bodyPost_ret (v := .tuple #[tval ad2 (putD most d k v).length cap2 most, .bool true]) (by simp [results, Try.results10, go_sem, r0, r1]; rfl) rfl (HO5.fin rfl (putD_one d k v) (putD_le hdm))
  · cases hl : (lookR d k).isSome with
    | true =>
      obtain ⟨i, hi, e1, e2, -⟩ := at_some HS.out hl
      have CD := Lib.hid (HO1.out.del hk (by omega))
      rw [hl, e2] at CD
      rw [e1]
      unfold kval at CD
      simp only at CD
      have hi0 : (0 : Int) ≤ (i : Int) := by omega
      go_wp2_with (first
        | (go_at_call 20; refine (CD.out).mono ?_; rintro e' w2 ⟨rfl, hO2⟩; obtain ⟨⟨i0, i1⟩, -, -, ⟨k0, k1⟩, -⟩ := hO2.cells; have CR := Lib.hid (hO2.rdel (by omega) hi); clear hO2; unfold tval at CR; simp only at CR i0 i1 k0 k1)
        | (go_at_call 26; refine (CR.out).mono ?_; rintro e' w3 ⟨ad2, cap2, rfl, hO3⟩; obtain ⟨⟨s0, s1⟩, -, -, ⟨s2, s3⟩, -⟩ := hO3.cells; have HO4 := Lib.hid (hO3.other (.slice ad2 (delR d i).length cap2) (.int .i64 most)); obtain ⟨⟨q0, q1⟩, -, ⟨q2, q3⟩, -, p0, p1⟩ := HO4.out.cells; clear hO3; simp only at s0 s1 s2 s3 p0 p1 q0 q1 q2 q3))
      have HO5 := HO4.out.answer (.slice ad2 (delR d i).length cap2) (.int .i64 most)
      obtain ⟨-, -, ⟨r0, r1⟩, -⟩ := HO5.cells
      simp only at r0 r1
      have hdl := del_len hi
      exact bodyPost_ret (v := .tuple #[tval ad2 (delR d i).length cap2 most, .bool true]) (by simp [results, Try.results10, go_sem, r0, r1]; rfl) rfl (HO5.fin rfl (by omega) (by omega))
    | false =>
      obtain ⟨e1, e2, -⟩ := at_none hl
      have CD := Lib.hid (HO1.out.del hk (by omega))
      rw [hl, e2] at CD
      rw [e1]
      unfold kval at CD
      simp only at CD
      go_wp2_with (go_at_call 20; refine (CD.out).mono ?_; rintro e' w2 ⟨rfl, hO2⟩; obtain ⟨⟨i0, i1⟩, -, ⟨q2, q3⟩, ⟨k0, k1⟩, p0, p1⟩ := hO2.cells; have HO4 := Lib.hid hO2; clear hO2; simp only at i0 i1 q2 q3 p0 p1 k0 k1)
      have HO5 := HO4.out.answer (.slice ad d.length cap) (.int .i64 most)
      obtain ⟨-, -, ⟨r0, r1⟩, -⟩ := HO5.cells
      simp only at r0 r1
      exact bodyPost_ret (v := .tuple #[tval ad d.length cap most, .bool true]) (by simp [results, Try.results10, go_sem, r0, r1]; rfl) rfl (HO5.fin rfl (by omega) (by omega))
  · have CD := Lib.hid (HO1.out.pop (by omega))
    simp only at CD
    cases d with
    | nil =>
      unfold minK minV some1 kval at CD
      simp only [List.isEmpty_nil, Bool.not_true, List.tail_nil] at CD
      go_wp2_with (go_at_call 14; refine (CD.out).mono ?_; rintro e' w2 ⟨rfl, hO2⟩; have HO4 := Lib.hid (hO2.below (box_below w2 (.cells #[.int .i64 0, .int .i64 0, .int .u32 0] 34))); obtain ⟨⟨i0, i1⟩, -, ⟨q2, q3⟩, -, p0, p1⟩ := HO4.out.cells; clear hO2; simp only at i0 i1 q2 q3 p0 p1)
      have HO5 := HO4.out.answer (.slice ad ([] : List Row).length cap) (.int .i64 most)
      obtain ⟨-, -, ⟨r0, r1⟩, -⟩ := HO5.cells
      simp only [List.length_nil] at r0 r1
      exact bodyPost_ret (v := .tuple #[tval ad ([] : List Row).length cap most, .bool true]) (by simp [results, Try.results10, go_sem, r0, r1]; rfl) rfl (HO5.fin rfl (by simp) (by simp; omega))
    | cons r d =>
      unfold minK minV some1 at CD
      simp only [List.isEmpty_cons, Bool.not_false, List.tail_cons] at CD
      obtain ⟨b, off, rfl, -⟩ := HO1.out.row (i := 0) (by simp)
      obtain ⟨⟨p, s, u⟩, x⟩ := r
      have hn0 : ¬ ((d.length : Int) + 1 = 0) := by omega
      unfold kval at CD
      simp only at CD
      go_wp2_with (go_at_call 14; refine (CD.out).mono ?_; rintro e' w2 ⟨rfl, hO2⟩; have HO4 := Lib.hid (hO2.below (box_below w2 (.cells #[.int .i64 p, .int .i64 s, .int .u32 u] 34))); obtain ⟨⟨i0, i1⟩, -, ⟨q2, q3⟩, -, p0, p1⟩ := HO4.out.cells; obtain ⟨y6, y7, y8, y9⟩ := at4 (HO4.out.rowAt (i := 0) (by simp)); have hlt2 := hO2.r.lt; clear hO2; simp only [rowAt, List.getD_cons_zero, Nat.zero_mul, Nat.add_zero] at i0 i1 q2 q3 p0 p1 y6 y7 y8 y9)
      obtain ⟨W4, hW4⟩ : ∃ W4, Hid (W4 = (w2.alloc (.cells #[.int .i64 p, .int .i64 s, .int .u32 u] 34)).alloc (.cells #[.int .i64 p, .int .i64 s, .int .u32 u, .int .i64 x] 63)) := ⟨_, Lib.hid rfl⟩
      have hP4 : PopS ⟨B, g, most, ((p, s, u), x) :: d, some ⟨b, off, none⟩, cap, e, lo, lo + 3⟩ kd k v d (((p, s, u), x) :: d) (some ⟨b, off, none⟩) cap p s u x w2.heap.size W4 := PopS.start HO4.out (by have := hlt2; simpa using this) hW4.out
      rw [← hW4.out]
      generalize w2.heap.size = m at *
      obtain ⟨S0, hS0⟩ : ∃ S0 : World → Prop, Hid (S0 = PopS ⟨B, g, most, ((p, s, u), x) :: d, some ⟨b, off, none⟩, cap, e, lo, lo + 3⟩ kd k v d (((p, s, u), x) :: d) (some ⟨b, off, none⟩) cap p s u x m) := ⟨_, Lib.hid rfl⟩
      have HP4 : Hid (S0 W4) := Lib.hid (by rw [hS0.out]; exact hP4)
      have HSd : Hid (∀ W, S0 W → S0 W.drew) := Lib.hid (by rw [hS0.out]; exact fun W h => h.below (Below.refl _ _).drew)
      have HSs : Hid (∀ W u0 u1, S0 W → S0 ((W.setCell ⟨lo + 1 + 1, 0, none⟩ u0).setCell ⟨lo + 1 + 1, 1, none⟩ u1)) := Lib.hid (by rw [hS0.out]; exact fun W u0 u1 h => h.answer u0 u1)
      obtain ⟨f0, hf0⟩ : ∃ f : World → Value, Hid (f = fun W => (W.cell? ⟨lo + 1 + 1, 0, none⟩).getD undef) := ⟨_, Lib.hid rfl⟩
      obtain ⟨f1, hf1⟩ : ∃ f : World → Value, Hid (f = fun W => (W.cell? ⟨lo + 1 + 1, 1, none⟩).getD undef) := ⟨_, Lib.hid rfl⟩
      have HSc : Hid (∀ W, S0 W → (W.cell? ⟨lo, 0, none⟩ = some (.slice (some ⟨b, off, none⟩) (d.length + 1) cap) ∧ W.cell? ⟨lo, 1, none⟩ = some (.int .i64 most)) ∧ (W.cell? ⟨m, 0, none⟩ = some (.int .i64 p) ∧ W.cell? ⟨m, 1, none⟩ = some (.int .i64 s) ∧ W.cell? ⟨m, 2, none⟩ = some (.int .u32 u)) ∧
        (W.cell? ⟨m + 1, 0, none⟩ = some (.int .i64 p) ∧ W.cell? ⟨m + 1, 1, none⟩ = some (.int .i64 s) ∧ W.cell? ⟨m + 1, 2, none⟩ = some (.int .u32 u) ∧ W.cell? ⟨m + 1, 3, none⟩ = some (.int .i64 x)) ∧ W.frozen? ⟨lo + 1 + 1, 0, none⟩ = false ∧ W.frozen? ⟨lo + 1 + 1, 1, none⟩ = false ∧ W.cell? ⟨lo + 1 + 1, 0, none⟩ = some (f0 W) ∧ W.cell? ⟨lo + 1 + 1, 1, none⟩ = some (f1 W)) := Lib.hid (by
        rw [hS0.out]
        intro W h
        obtain ⟨a1, a2, a3, a4, a5, ⟨r0, a6⟩, r1, a7⟩ := h.cells
        refine ⟨a1, a2, a3, a4, a5, ?_, ?_⟩
        · rw [hf0.out]; simp only at a6 ⊢; rw [a6]; rfl
        · rw [hf1.out]; simp only at a7 ⊢; rw [a7]; rfl)
      have CR : Hid (∀ W, S0 W → Calls Try.prog 26 #[.agg #[.slice (some ⟨b, off, none⟩) (d.length + 1) cap, .int .i64 most], .int .i64 0] W fun z w' => ∃ ad2 cap2, z = .returned (.agg #[.slice ad2 d.length cap2, .int .i64 most]) ∧ S0 w' ∧ ∃ r0 r1, One ⟨B, g, most, ((p, s, u), x) :: d, some ⟨b, off, none⟩, cap, e, lo, lo + 3⟩ (.slice (some ⟨b, off, none⟩) (((p, s, u), x) :: d).length cap) (.int .i64 most) r0 r1 kd k v d d ad2 cap2 w') := Lib.hid (by rw [hS0.out]; exact fun W h => h.del (by simp at hd; omega))
      have he := eqK_refl7 (p, s, u)
      have hdm2 : (d.length : Int) ≤ most := by simp at hdm; omega
      clear hdm hd
      clear hP4 HO1 CD HO4 i0 i1 q2 q3 p0 p1 y6 y7 y8 y9 x0 x1 y0 y1 y2 y3 y4 z0 z1 u0 u1 HS
      refine wp_region_noPanic ?_
      go_region_held_law (fun W => S0 W ∧ (W.cell? ⟨lo, 0, none⟩ = some (.slice (some ⟨b, off, none⟩) (d.length + 1) cap) ∧ W.cell? ⟨lo, 1, none⟩ = some (.int .i64 most)) ∧ (W.cell? ⟨m, 0, none⟩ = some (.int .i64 p) ∧ W.cell? ⟨m, 1, none⟩ = some (.int .i64 s) ∧ W.cell? ⟨m, 2, none⟩ = some (.int .u32 u)) ∧ (W.cell? ⟨m + 1, 0, none⟩ = some (.int .i64 p) ∧ W.cell? ⟨m + 1, 1, none⟩ = some (.int .i64 s) ∧ W.cell? ⟨m + 1, 2, none⟩ = some (.int .u32 u) ∧ W.cell? ⟨m + 1, 3, none⟩ = some (.int .i64 x)) ∧ W.frozen? ⟨lo + 1 + 1, 0, none⟩ = false ∧ W.frozen? ⟨lo + 1 + 1, 1, none⟩ = false ∧ W.cell? ⟨lo + 1 + 1, 0, none⟩ = some (f0 W) ∧ W.cell? ⟨lo + 1 + 1, 1, none⟩ = some (f1 W))
        ((refine ⟨?_, HSc.out _ ?_⟩ <;> (first | assumption | exact HP4.out | exact HSd.out _ HP4.out | exact HSd.out _ (‹S0 _ ∧ _›).1 | exact HSs.out _ _ _ (‹S0 _ ∧ _›).1 | exact HSs.out _ _ _ (by assumption))))
        ((go_at_call 26; (with_reducible refine (CR.out _ ?_).mono ?_); (focus (first | assumption | exact (‹S0 _ ∧ _›).1)); rintro e' w3 ⟨ad2, cap2, rfl, hS3, hO3⟩))
      obtain ⟨r0', r1', hO3⟩ := hO3
      refine NoPanic.normal ?_
      go_wp2_with fail
      have HO5 := hO3.answer (.slice ad2 d.length cap2) (.int .i64 most)
      obtain ⟨-, -, ⟨r0, r1⟩, -⟩ := HO5.cells
      simp only at r0 r1
      exact bodyPost_ret (v := .tuple #[tval ad2 d.length cap2 most, .bool true]) (by simp [results, Try.results10, go_sem, r0, r1]; rfl) rfl (HO5.fin rfl (by simp; omega) (by omega))
  · have CD := Lib.hid (HO1.out.drop (by omega))
    have hcnt := filter_two (fun r => decide (r.1.1 ≤ k.1)) d
    have HFL : Hid ((d.filter (fun r => !decide (r.1.1 ≤ k.1))).length ≤ d.length) := Lib.hid (List.length_filter_le _ _)
    simp only at CD
    obtain ⟨d2, hd2⟩ : ∃ d2, Hid (d.filter (fun r => !decide (r.1.1 ≤ k.1)) = d2) := ⟨_, Lib.hid rfl⟩
    obtain ⟨n2, hn2⟩ : ∃ n2, Hid ((d.filter (fun r => decide (r.1.1 ≤ k.1))).length = n2) := ⟨_, Lib.hid rfl⟩
    rw [hd2.out, hn2.out] at CD
    rw [hd2.out, hn2.out] at hcnt
    rw [hd2.out] at HFL
    have hsub : IntKind.i64.wrap ((d.length : Int) - (d2.length : Int)) = (n2 : Int) := by rw [IntKind.wrap_i64]; omega
    go_wp2_with (first
        | (go_at_call 23; refine (CD.out).mono ?_; rintro e' w2 ⟨rfl, hO2⟩; obtain ⟨⟨i0, i1⟩, ⟨j0, j1, j2, j3, j4⟩, -, -, -⟩ := hO2.cells; have CR := Lib.hid (hO2.rdrop (by omega) k.1); clear hO2; rw [hd2.out] at CR; unfold tval at CR; simp only at CR i0 i1 j0 j1 j2 j3 j4)
        | (go_at_call 28; refine (CR.out).mono ?_; rintro e' w3 ⟨ad2, cap2, rfl, hO3⟩; have HO4 := Lib.hid (hO3.below (box_below w3 (.cells #[.slice ad2 d2.length cap2, .int .i64 most] 27))); have hlt3 := hO3.r.lt; obtain ⟨⟨q4, q5⟩, -, ⟨q0, q1⟩, -, p0, p1⟩ := HO4.out.cells; clear hO3; simp only at p0 p1 q0 q1 q4 q5 hlt3))
    have hne : w3.heap.size ≠ lo + 1 + 1 := by omega
    have t0 := (Blk.new w3 27 #[.slice ad2 d2.length cap2, .int .i64 most]).cell 0
    have t1 := (Blk.new w3 27 #[.slice ad2 d2.length cap2, .int .i64 most]).cell 1
    generalize w3.alloc (.cells #[.slice ad2 d2.length cap2, .int .i64 most] 27) = w4 at *
    generalize w3.heap.size = m at *
    go_region
    go_wp2_with fail
    have HO5 := (HO4.out.answer (.slice ad2 d2.length cap2) (.int .i64 most)).below (Below.refl _ _).drew
    obtain ⟨-, -, ⟨r0', r1'⟩, -⟩ := HO5.cells
    have r0 : ((w4.setCell ⟨lo + 1 + 1, 0, none⟩ (.slice ad2 d2.length cap2)).setCell ⟨lo + 1 + 1, 1, none⟩ (.int .i64 most)).drew.cell? ⟨lo + 1 + 1, 0, none⟩ = some (.slice ad2 d2.length cap2) := r0'
    have r1 : ((w4.setCell ⟨lo + 1 + 1, 0, none⟩ (.slice ad2 d2.length cap2)).setCell ⟨lo + 1 + 1, 1, none⟩ (.int .i64 most)).drew.cell? ⟨lo + 1 + 1, 1, none⟩ = some (.int .i64 most) := r1'
    exact bodyPost_ret (v := .tuple #[tval ad2 d2.length cap2 most, .bool true]) (by simp [results, Try.results10, go_sem, r0, r1]; rfl) rfl (HO5.fin rfl (by have := HFL.out; omega) (by have := HFL.out; omega))
  · cases hl : (lookR d k).isSome with
    | true =>
      obtain ⟨i, hi, e1, e2, e3⟩ := at_some HS.out hl
      have CD := Lib.hid (HO1.out.get hk)
      rw [hl] at CD
      rw [e1]
      unfold kval at CD
      simp only at CD
      have hi0 : ¬ (i : Int) < 0 := by omega
      have hin : i < d.length := hi
      obtain ⟨b, off, rfl, hrow⟩ := HO1.out.row hi
      have HRW := Lib.hid hrow
      clear hrow
      go_wp2_with (go_at_call 18; refine (CD.out).mono ?_; rintro e' w2 ⟨rfl, hO2, hB2⟩; obtain ⟨⟨i0, i1⟩, -, ⟨q2, q3⟩, -, p0, p1⟩ := hO2.cells; have HO4 := Lib.hid hO2; clear hO2; obtain ⟨-, -, -, y9⟩ := at4 (HRW.out w2 hB2); clear hB2; rw [e3] at y9; simp only at i0 i1 q2 q3 p0 p1 y9)
      go_region
      go_wp2_with fail
      have HO5 := (HO4.out.answer (.slice (some ⟨b, off, none⟩) d.length cap) (.int .i64 most)).below (Below.refl _ _).drew
      obtain ⟨-, -, ⟨r0', r1'⟩, -⟩ := HO5.cells
      have r0 : ((w2.setCell ⟨lo + 1 + 1, 0, none⟩ (.slice (some ⟨b, off, none⟩) d.length cap)).setCell ⟨lo + 1 + 1, 1, none⟩ (.int .i64 most)).drew.cell? ⟨lo + 1 + 1, 0, none⟩ = some (.slice (some ⟨b, off, none⟩) d.length cap) := r0'
      have r1 : ((w2.setCell ⟨lo + 1 + 1, 0, none⟩ (.slice (some ⟨b, off, none⟩) d.length cap)).setCell ⟨lo + 1 + 1, 1, none⟩ (.int .i64 most)).drew.cell? ⟨lo + 1 + 1, 1, none⟩ = some (.int .i64 most) := r1'
      exact bodyPost_ret (v := .tuple #[tval (some ⟨b, off, none⟩) d.length cap most, .bool true]) (by simp [results, Try.results10, go_sem, r0, r1]; rfl) rfl (HO5.fin rfl (by omega) (by omega))
    | false =>
      obtain ⟨e1, e2, e3⟩ := at_none hl
      have CD := Lib.hid (HO1.out.get hk)
      rw [hl, e3] at CD
      rw [e1]
      unfold kval at CD
      simp only at CD
      go_wp2_with (go_at_call 18; refine (CD.out).mono ?_; rintro e' w2 ⟨rfl, hO2, -⟩; obtain ⟨⟨i0, i1⟩, -, ⟨q2, q3⟩, -, p0, p1⟩ := hO2.cells; have HO4 := Lib.hid hO2; clear hO2; simp only at i0 i1 q2 q3 p0 p1)
      have HO5 := HO4.out.answer (.slice ad d.length cap) (.int .i64 most)
      obtain ⟨-, -, ⟨r0, r1⟩, -⟩ := HO5.cells
      simp only at r0 r1
      exact bodyPost_ret (v := .tuple #[tval ad d.length cap most, .bool true]) (by simp [results, Try.results10, go_sem, r0, r1]; rfl) rfl (HO5.fin rfl (by omega) (by omega))
  · have CD := Lib.hid HO1.out.clear
    simp only at CD
    go_wp2_with (go_at_call 17; refine (CD.out).mono ?_; rintro e' w2 ⟨rfl, hO2⟩; have HO4 : Hid (One ⟨B, g, most, d, ad, cap, e, lo, lo + 3⟩ (.slice ad d.length cap) (.int .i64 most) (.slice none 0 0) (.int .i64 0) kd k v [] [] none 0 w2) := Lib.hid ⟨hO2.two.nilRows, hO2.hhi, hO2.t, hO2.a, hO2.r⟩; obtain ⟨⟨i0, i1⟩, -, ⟨q2, q3⟩, ⟨k0, k1⟩, p0, p1⟩ := hO2.cells; clear hO2; simp only at i0 i1 q2 q3 p0 p1 k0 k1)
    have HO5 := HO4.out.answer (.slice none 0 0) (.int .i64 most)
    obtain ⟨-, -, ⟨r0, r1⟩, -⟩ := HO5.cells
    simp only at r0 r1
    exact bodyPost_ret (v := .tuple #[tval none 0 0 most, .bool true]) (by simp [results, Try.results10, go_sem, r0, r1]; rfl) rfl (HO5.fin rfl (by simp) (by simp; omega))
end Go.Proofs.Ytolcidilnmjlmaa.TblL
