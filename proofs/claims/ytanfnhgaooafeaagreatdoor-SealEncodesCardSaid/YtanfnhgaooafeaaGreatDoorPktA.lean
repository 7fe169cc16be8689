/- Packets in layers: what the texts of layers 11 and 12 have in common, for layers 12 and later (out of PulA, PulM, PulG, PulJ, PulL, to the letter): numbers that may be, packets that are the same, a reader beside boxes, the document's readers beside two boxes. -/
import Derived.Test.YtanfnhgaooafeaaGreatDoorDatX
import Derived.Test.YtanfnhgaooafeaaGreatDoorHedF
import Derived.Test.YtanfnhgaooafeaaGreatDoorBufX
namespace Go.Proofs.YtanfnhgaooafeaaGreatDoor.Pkt
open Go.ChangeShapes Go.WideShapes Go.ChangeAt Go.RowKit Go.Deep
open Go.Proofs.YtanfnhgaooafeaaGreatDoor.Byt Go.Proofs.YtanfnhgaooafeaaGreatDoor.Key Go.Proofs.YtanfnhgaooafeaaGreatDoor.Buf Go.Proofs.YtanfnhgaooafeaaGreatDoor.Hed Go.Proofs.YtanfnhgaooafeaaGreatDoor.Dat Go.Proofs.YtanfnhgaooafeaaGreatDoor.BufM
set_option linter.unusedVariables false
set_option linter.unusedSimpArgs false
/-- May a round have such a number? -/
def noOk (n : Int) : Bool := decide (0 ≤ n) && decide (n ≤ 1152921504606846976)
theorem str_eq (l m : List UInt8) : (strB l == strB m) = decide (l = m) := by
  rw [beq_toListBytes, ByteArray.toList_eq, ByteArray.toList_eq]
  unfold strB
  rw [Bool.eq_iff_iff]
  simp
theorem eqP_iff (p q : Pk) : eqP p q = true ↔ p.kind = q.kind ∧ p.key = q.key ∧ p.hops = q.hops ∧ p.no = q.no ∧ p.to = q.to ∧ p.index = q.index ∧ p.total = q.total ∧ p.stamp = q.stamp ∧ p.value = q.value ∧ p.body = q.body := by
  unfold eqP eqK
  rw [str_eq]
  simp only [Bool.and_eq_true, beq_iff_eq, decide_eq_true_eq]
theorem noOk_iff (n : Int) : noOk n = true ↔ 0 ≤ n ∧ n ≤ 1152921504606846976 := by
  unfold noOk
  simp only [Bool.and_eq_true, decide_eq_true_eq]
/-- Bytes that lie nowhere in a reader stay while it reads. -/
theorem rd_reader {w W : World} {g : Nat} {s : Int × List UInt8} {ad : Option Addr} {l : List UInt8} (hr : RdB w ad l) (hS : RStep w W g) (h : RR w g s) : RdB W ad l := by
  obtain ⟨a, c, hb, -⟩ := h.mem
  refine rd_kept hr fun hne b o e hlt => ?_
  rcases Nat.lt_or_ge b g with h1 | h1
  · exact hS.below.block b h1
  · rcases Nat.eq_or_lt_of_le h1 with h2 | h2
    · subst h2
      exfalso
      rcases hr with h0 | ⟨b', off, e', hc⟩
      · exact hne h0
      · have e2 : some (⟨g, o, none⟩ : Addr) = some ⟨b', off, none⟩ := e.symm.trans e'
        cases e2
        have := hc 0 (List.length_pos_iff.2 hne)
        rw [hb.cell] at this
        simp only [Nat.add_zero] at this
        match o, this with
        | 0, h => simp at h
        | 1, h => simp at h
        | n + 2, h => simp at h
    · exact hS.block b h2 hlt
/-- The packet with another body's memory. -/
def memP (p : Pk) (ad : Option Addr) (cap : Nat) : Pk := { p with ad := ad, cap := cap }
/-- A packet's box and the packet handed back. -/
structure D2 (w : World) (cs : Array Value) (W : World) : Prop where
  box : Blk W w.heap.size 27 cs
  res : Blk W (w.heap.size + 1) 27 (Pk.cells zero)
  below : Below w.heap.size w W
theorem D2.start {w W : World} {cs : Array Value} (h : W = (w.alloc (.cells cs 27)).alloc (.cells (Pk.cells zero) 27)) : D2 w cs W := by
  obtain ⟨h1, h2, h3⟩ := boxes_two w W _ _ _ h
  exact ⟨h2, h3, h1⟩
theorem D2.drewN {w W : World} {cs : Array Value} (h : D2 w cs W) (n : Nat) : D2 w cs (W.drewN n) := ⟨h.box.drewN n, h.res.drewN n, Own.below_drewN h.below n⟩
theorem D2.put {w W : World} {cs : Array Value} (h : D2 w cs W) (i : Nat) (u : Value) : D2 w (cs.setIfInBounds i u) (W.setCell ⟨w.heap.size, i, none⟩ u) :=
  ⟨h.box.put i u, h.res.far (p := ⟨w.heap.size, i, none⟩) (by simp) u, h.below.setCell (p := ⟨w.heap.size, i, none⟩) (Nat.le_refl _) u⟩
theorem D2.fin {w W : World} {cs : Array Value} (h : D2 w cs W) (es : Array Value) (hs : (Pk.cells zero).size = es.size) : Blk (W.setRow (w.heap.size + 1) es) (w.heap.size + 1) 27 es ∧ Below w.heap.size w (W.setRow (w.heap.size + 1) es) :=
  ⟨Blk.row h.res es hs, below_setRow h.below (by omega) _⟩
theorem rds_put {w W : World} {G : Nat} {ad : Option Addr} {len cap : Nat} {l : List UInt8} (h : RdS W G ad len cap l) (hG : G ≤ w.heap.size) (i : Nat) (u : Value) : RdS (W.setCell ⟨w.heap.size, i, none⟩ u) G ad len cap l :=
  h.kept fun b hb => heap_setCell_other _ _ _ _ (by simp only; omega)
/-- What the document's Get leaves where it went well. -/
def RGo (p : Pk) (n : Nat) (w : World) (e : Ending) (w' : World) : Prop := ∃ ad cap, e = .returned (.tuple #[pval p, .slice ad n cap, .int .i64 0]) ∧ Below w.heap.size w w'
/-- What GetFixed and GetNum leave beside the boxes. -/
def GD (w : World) (G : Nat) (cs : Array Value) (r : Nat × List UInt8 × Nat) (e : Ending) (w' : World) : Prop :=
  ∃ ad cap, e = .returned (.tuple #[.int .u64 ((r.1 : Nat) : Int), .slice ad r.2.1.length cap, .int .i64 ((r.2.2 : Nat) : Int)]) ∧ Hid (RdS w' G ad r.2.1.length cap r.2.1) ∧ Hid (D2 w cs w')
theorem GD.of {w W : World} {G : Nat} {cs : Array Value} {r : Nat × List UInt8 × Nat} (h : D2 w cs W) {e : Ending} {w' : World} (hp : GPost W G r e w') : GD w G cs r e w' := by
  obtain ⟨ad, len, cap, n, rfl, rfl, hr⟩ := hp
  obtain rfl := hr.len_
  exact ⟨ad, cap, rfl, Lib.hid (hr.drewN n), Lib.hid (h.drewN n)⟩
/-- A number of a reader's as one with a sign. -/
def sg (x : Nat) : Int := IntKind.i64.wrap (x : Int)
theorem numS_zero (l : List UInt8) : numS (0, l) = if (getN l).2.2 = 0 then (0, (getN l).2.1) else (((getN l).2.2 : Int), []) := by
  unfold numS upd
  simp only [if_true]
theorem sg_un (x : Int) (h : -9223372036854775808 ≤ x ∧ x ≤ 9223372036854775807) : sg (un x) = x := by
  unfold sg un
  rw [IntKind.wrap_i64]
  omega
theorem getF_put (x : Int) (r : List UInt8) : getF (fixB (un x) 8 ++ r) 8 = (un x, r, 0) := by
  have h := getF_fix (un x) 8 (by omega) (by omega) r
  rw [Nat.mod_eq_of_lt (by have := un_lt x; show un x < 256 ^ 8; omega)] at h
  exact h
end Go.Proofs.YtanfnhgaooafeaaGreatDoor.Pkt
