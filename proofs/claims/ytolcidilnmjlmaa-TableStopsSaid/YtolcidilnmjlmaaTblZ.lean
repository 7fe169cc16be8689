/- The document's own answers for layer table (7): Put. -/
import Derived.Test.YtolcidilnmjlmaaTblX
import Derived.Test.YtolcidilnmjlmaaTblJ
import Derived.Deep.RegionHeld3
import Derived.Deep.RegionHeldLaw
import Derived.Deep.Cut
import Derived.Deep.CutRange
import Derived.Deep.CutBlock
namespace Go.Proofs.Ytolcidilnmjlmaa.TblR
open Go.ChangeShapes Go.WideShapes Go.ChangeAt Go.RowKit
open Go.Proofs.Ytolcidilnmjlmaa.Key Go.Proofs.Ytolcidilnmjlmaa.Rw Go.Proofs.Ytolcidilnmjlmaa.Tbl Go.Proofs.Ytolcidilnmjlmaa.TblL
set_option linter.unusedVariables false
set_option linter.unusedSimpArgs false
/-- What the reference's Put leaves. -/
def PutPost (ad : Option Addr) (cap : Nat) (most : Int) (d : List Row) (k : Ky) (v : Int) (w : World) (e : Ending) (w' : World) : Prop :=
  ∃ ad' cap', e = .returned (.tuple #[tval ad' (putD most d k v).length cap' most, .int .i64 (putE most d k)]) ∧ Below w.heap.size w w' ∧
    ((ad' = ad ∧ cap' = cap ∧ putD most d k v = d) ∨ OwnR w' w.heap.size (.slice ad' (putD most d k v).length cap') (putD most d k v))
/-- The boxes that the call begins with. -/
structure PutBox (ad : Option Addr) (n cap : Nat) (most : Int) (k : Ky) (w w0 : World) : Prop where
  below : Below w.heap.size w w0
  size : w0.heap.size = w.heap.size + 3
  t : Blk w0 w.heap.size 27 #[.slice ad n cap, .int .i64 most]
  k : Blk w0 (w.heap.size + 1) 34 #[.int .i64 k.1, .int .i64 k.2.1, .int .u32 k.2.2]
  r : Blk w0 (w.heap.size + 1 + 1) 27 #[.slice none 0 0, .int .i64 0]
theorem PutBox.of (ad : Option Addr) (n cap : Nat) (most : Int) (k : Ky) (w w0 : World) (h : w0 = ((w.alloc (.cells #[.slice ad n cap, .int .i64 most] 27)).alloc (.cells #[.int .i64 k.1, .int .i64 k.2.1, .int .u32 k.2.2] 34)).alloc (.cells #[.slice none 0 0, .int .i64 0] 27)) : PutBox ad n cap most k w w0 := by
  subst h
  refine ⟨((box_below _ _).alloc (by simp) _).alloc (by simp; omega) _, by simp [World.size_alloc], ((Blk.new w _ _).alloc _).alloc _, ?_, ?_⟩
  · have := (Blk.new (w.alloc (.cells #[.slice ad n cap, .int .i64 most] 27)) 34 #[.int .i64 k.1, .int .i64 k.2.1, .int .u32 k.2.2]).alloc (.cells #[.slice none 0 0, .int .i64 0] 27)
    rwa [World.size_alloc] at this
  · have := Blk.new ((w.alloc (.cells #[.slice ad n cap, .int .i64 most] 27)).alloc (.cells #[.int .i64 k.1, .int .i64 k.2.1, .int .u32 k.2.2] 34)) 27 #[.slice none 0 0, .int .i64 0]
    rwa [World.size_alloc, World.size_alloc] at this
def PutFacts (ad : Option Addr) (n cap : Nat) (most : Int) (k : Ky) (w W : World) : Prop :=
  (W.cell? ⟨w.heap.size, 0, none⟩ = some (.slice ad n cap) ∧ W.cell? ⟨w.heap.size, 1, none⟩ = some (.int .i64 most)) ∧
  (W.cell? ⟨w.heap.size + 1, 0, none⟩ = some (.int .i64 k.1) ∧ W.cell? ⟨w.heap.size + 1, 1, none⟩ = some (.int .i64 k.2.1) ∧ W.cell? ⟨w.heap.size + 1, 2, none⟩ = some (.int .u32 k.2.2)) ∧
  (W.cell? ⟨w.heap.size + 1 + 1, 0, none⟩ = some (.slice none 0 0) ∧ W.cell? ⟨w.heap.size + 1 + 1, 1, none⟩ = some (.int .i64 0) ∧ W.frozen? ⟨w.heap.size + 1 + 1, 0, none⟩ = false ∧ W.frozen? ⟨w.heap.size + 1 + 1, 1, none⟩ = false)
theorem PutBox.facts {ad : Option Addr} {n cap : Nat} {most : Int} {k : Ky} {w w0 W : World} (h : PutBox ad n cap most k w w0) (hB : Below w0.heap.size w0 W) : PutFacts ad n cap most k w W := by
  have a := h.t.below hB
  have b := h.k.below hB
  have c := h.r.below hB
  exact ⟨⟨a.cell 0, a.cell 1⟩, ⟨b.cell 0, b.cell 1, b.cell 2⟩, c.cell 0, c.cell 1, c.free 0, c.free 1⟩
theorem PutBox.to {ad : Option Addr} {n cap : Nat} {most : Int} {k : Ky} {w w0 W : World} (h : PutBox ad n cap most k w w0) (hB : Below w0.heap.size w0 W) (u0 u1 : Value) : Below w.heap.size w ((W.setCell ⟨w.heap.size + 1 + 1, 0, none⟩ u0).setCell ⟨w.heap.size + 1 + 1, 1, none⟩ u1) := by
  have hs := h.size
  exact ((h.below.trans (hB.mono (by omega))).setCell (p := ⟨w.heap.size + 1 + 1, 0, none⟩) (by simp; omega) _).setCell (p := ⟨w.heap.size + 1 + 1, 1, none⟩) (by simp; omega) _
/-- It is there, or there is no room. -/
theorem rput_no (ad : Option Addr) (cap : Nat) (most : Int) (d : List Row) (k : Ky) (v : Int) (w : World) (hm : d.length ≤ 1000000) (hr : RdR w ad d) (hdm : (d.length : Int) ≤ most)
    (hno : (lookR d k).isSome = true ∨ most - (d.length : Int) = 0) :
    Calls Try.prog 15 #[tval ad d.length cap most, kval k, .int .i64 v] w (PutPost ad cap most d k v w) := by
  have hpd : putD most d k v = d := by
    unfold putD
    rcases hno with h | h
    · rw [if_pos h]
    · rw [if_pos h]; split <;> rfl
  obtain ⟨w0, hw0⟩ : ∃ w0, Hid (w0 = ((w.alloc (.cells #[.slice ad d.length cap, .int .i64 most] 27)).alloc (.cells #[.int .i64 k.1, .int .i64 k.2.1, .int .u32 k.2.2] 34)).alloc (.cells #[.slice none 0 0, .int .i64 0] 27)) := ⟨_, Lib.hid rfl⟩
  have HX := Lib.hid (PutBox.of ad d.length cap most k w w0 hw0.out)
  have HF : Hid (∀ W, Below w0.heap.size w0 W → PutFacts ad d.length cap most k w W) := Lib.hid (fun W hB => HX.out.facts hB)
  have CA := Lib.hid (rat_any ad d.length cap most d k w0 rfl hm (hr.below HX.out.below))
  have HP : Hid (∀ W, Below w0.heap.size w0 W → PutPost ad cap most d k v w (.returned (.tuple #[.agg #[.slice ad d.length cap, .int .i64 most], .int .i64 (putE most d k)])) ((W.setCell ⟨w.heap.size + 1 + 1, 0, none⟩ (.slice ad d.length cap)).setCell ⟨w.heap.size + 1 + 1, 1, none⟩ (.int .i64 most))) := Lib.hid (fun W hB => by
    refine ⟨ad, cap, ?_, HX.out.to hB _ _, .inl ⟨rfl, rfl, hpd⟩⟩
    rw [hpd]; rfl)
  obtain ⟨⟨c0, c1⟩, ⟨k0, k1, k2⟩, -⟩ := HF.out w0 (Below.refl _ _)
  clear hr hpd
  cases hl : (lookR d k).isSome with
  | true =>
    have he : putE most d k = 12 := by unfold putE; rw [hl]; rfl
    have ha : 0 ≤ atR d k := by unfold atR; rw [hl]; simp
    rw [he] at HP
    generalize atR d k = r at *
    generalize d.length = n at *
    clear hl he hno hdm
    obtain ⟨p, q, s⟩ := k
    unfold kval tval at *
    simp only at CA k0 k1 k2 hw0
    go_enter Try.func15, Try.ntmps15
    go_upto_region 1 with fail
    rw [← hw0.out]
    go_wp2_with fail
    refine (CA.out).mono ?_; rintro e w1 ⟨rfl, hB1⟩
    obtain ⟨⟨d0, d1⟩, -, u0, u1, y0, y1⟩ := HF.out w1 hB1
    have HP1 := Lib.hid (HP.out w1 hB1)
    clear hB1 c0 c1 k0 k1 k2
    go_wp2_with fail
    obtain ⟨r0, r1⟩ := setC2 (u0 := .slice ad n cap) (u1 := .int .i64 most) u0 u1
    refine bodyPost_ret (v := .tuple #[.agg #[.slice ad n cap, .int .i64 most], .int .i64 12]) (by simp [results, Try.results15, go_sem, r0, r1]) rfl ?_
    exact HP1.out
  | false =>
    have hz : most - (d.length : Int) = 0 := by rcases hno with h | h; rw [hl] at h; cases h; exact h
    have he : putE most d k = 13 := by unfold putE; rw [hl, if_neg (by simp), if_pos hz]
    have ha : atR d k = -1 := by unfold atR; rw [hl]; rfl
    rw [he] at HP
    rw [ha] at CA
    obtain rfl : most = (d.length : Int) := by omega
    generalize d.length = n at *
    clear hl he hno hdm ha hz
    obtain ⟨p, q, s⟩ := k
    unfold kval tval at *
    simp only at CA k0 k1 k2 hw0
    go_enter Try.func15, Try.ntmps15
    go_upto_region 1 with fail
    rw [← hw0.out]
    go_wp2_with fail
    refine (CA.out).mono ?_; rintro e w1 ⟨rfl, hB1⟩
    obtain ⟨⟨d0, d1⟩, -, u0, u1, y0, y1⟩ := HF.out w1 hB1
    have HP1 := Lib.hid (HP.out w1 hB1)
    clear hB1 c0 c1 k0 k1 k2
    go_wp2_with fail
    obtain ⟨r0, r1⟩ := setC2 (u0 := .slice ad n cap) (u1 := .int .i64 n) u0 u1
    refine bodyPost_ret (v := .tuple #[.agg #[.slice ad n cap, .int .i64 n], .int .i64 13]) (by simp [results, Try.results15, go_sem, r0, r1]) rfl ?_
    exact HP1.out
end Go.Proofs.Ytolcidilnmjlmaa.TblR
