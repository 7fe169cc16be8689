/- Packets side by side: slices of packets, those that came in; who is there, of a list (layer 12; later layers with []Packet likewise). -/
import Derived.Test.YtepcbklokcfbfaaAttM
import Derived.Test.YtepcbklokcfbfaaKeyB
import Derived.Test.YtepcbklokcfbfaaRowA
import Derived.Test.YtepcbklokcfbfaaNodesM
import Derived.Test.YtepcbklokcfbfaaHedE
import Derived.Deep.Slices
import Derived.Deep.Fields
import Derived.OpenShut
namespace Go.Proofs.Ytepcbklokcfbfaa.Att
open Go.ChangeShapes Go.WideShapes Go.ChangeAt Go.RowKit Go.Deep
open Go.Proofs.Ytepcbklokcfbfaa.Byt Go.Proofs.Ytepcbklokcfbfaa.Key Go.Proofs.Ytepcbklokcfbfaa.Buf Go.Proofs.Ytepcbklokcfbfaa.Hed Go.Proofs.Ytepcbklokcfbfaa.Dat Go.Proofs.Ytepcbklokcfbfaa.BufM Go.Proofs.Ytepcbklokcfbfaa.Pkt
set_option linter.unusedVariables false
set_option linter.unusedSimpArgs false
/-- A packet's cells, one after another. -/
def encP (p : Pk) : List Value := p.cells.toList
theorem encP_len (p : Pk) : (encP p).length = 12 := rfl
instance : Inhabited Pk := ⟨Hed.zero⟩
/-- A slice reads as a list of packets. -/
def RdP (w : World) (ad : Option Addr) (l : List Pk) : Prop := Rw.Rd encP 12 w ad l
/-- The twelve cells. -/
def Twelve (w : World) (b o : Nat) (p : Pk) : Prop :=
  w.cell? ⟨b, o, none⟩ = some (.int .i64 p.kind) ∧ w.cell? ⟨b, o + 1, none⟩ = some (.int .i64 p.key.1) ∧ w.cell? ⟨b, o + 2, none⟩ = some (.int .i64 p.key.2.1) ∧ w.cell? ⟨b, o + 3, none⟩ = some (.int .u32 p.key.2.2) ∧ w.cell? ⟨b, o + 4, none⟩ = some (.int .i64 p.hops) ∧
  w.cell? ⟨b, o + 5, none⟩ = some (.int .i64 p.no) ∧ w.cell? ⟨b, o + 6, none⟩ = some (.int .i64 p.to) ∧ w.cell? ⟨b, o + 7, none⟩ = some (.int .i64 p.index) ∧ w.cell? ⟨b, o + 8, none⟩ = some (.int .i64 p.total) ∧ w.cell? ⟨b, o + 9, none⟩ = some (.int .i64 p.stamp) ∧ w.cell? ⟨b, o + 10, none⟩ = some (.int .i64 p.value) ∧ w.cell? ⟨b, o + 11, none⟩ = some (.slice p.ad p.body.length p.cap)
theorem at12 {w : World} {b o : Nat} {p : Pk} (h : Rw.At encP w b o p) : Twelve w b o p :=
  ⟨h 0 _ rfl, h 1 _ rfl, h 2 _ rfl, h 3 _ rfl, h 4 _ rfl, h 5 _ rfl, h 6 _ rfl, h 7 _ rfl, h 8 _ rfl, h 9 _ rfl, h 10 _ rfl, h 11 _ rfl⟩
/-- A slice of packets that came in. -/
structure Pks (w : World) (G : Nat) (a : Option Addr) (len cap : Nat) (ts : List Pk) : Prop where
  len_ : ts.length = len
  le : len ≤ cap
  max : cap ≤ 9223372036854775807
  nil : a = none → cap = 0
  ok : ∀ t ∈ ts, Hed.Ok w t
  rd : RdP w a ts
section
variable {H : Type} {enc0 : TypeId × Value → H} {w : World}
theorem open_packets {n : Nat} {v : Value} {x : DataW H × List MemPlace} {a : Option Addr} {len cap : Nat} (hv : v = .slice a len cap) (h : DataW.trod enc0 Try.prog w 0 (fun _ => true) true n 49 [v] = some x) :
    ∃ ts, Pks w w.heap.size a len cap ts := by
  subst hv
  rcases open_slice Try.underlying49 h with ⟨hcs, _⟩ | ⟨ad, l, c, m, n', D, Pl, hcs, _, hl, hm, hmm, _, hi⟩
  · simp at hcs
    obtain ⟨rfl, rfl, rfl⟩ := hcs
    exact ⟨[], ⟨rfl, Nat.le_refl _, by omega, fun _ => rfl, fun t ht => (by cases ht), .inl rfl⟩⟩
  · simp at hcs
    obtain ⟨rfl, rfl, rfl⟩ := hcs
    simp only [if_true] at hmm
    subst hmm
    unfold maxLen at hm
    have each : ∀ i, i < len → ∃ t : Pk, Hed.Ok w t ∧ ∀ j u, (encP t)[j]? = some u → w.cell? ((ad.add (i * 12)).add j) = some u := fun i hil => by
      obtain ⟨cs', hc, ht⟩ := hi i (by omega)
      obtain ⟨t, hcs, hok⟩ := Hed.open_cells ht
      rw [Hed.cellsP] at hc
      obtain ⟨_, hcl, hat⟩ := World.cells?_some hc
      refine ⟨t, hok, fun j u hu => ?_⟩
      unfold encP at hu
      rw [← hcs] at hu
      have hj : j < 12 := by rw [← hcl]; exact (List.getElem?_eq_some_iff.1 hu).1
      rw [hat j hj, hu]
    obtain ⟨T, hT⟩ := choose_lt each
    refine ⟨(List.range len).map T, ⟨by simp, hl, by omega, (fun h => by cases h), fun t ht => ?_, ?_⟩⟩
    · obtain ⟨i, hi', rfl⟩ := List.mem_map.1 ht
      exact (hT i (List.mem_range.1 hi')).1
    · by_cases h0 : len = 0
      · exact .inl (by rw [h0]; rfl)
      · obtain ⟨b, off, spot⟩ := ad
        have h00 := (hT 0 (by omega)).2 0 _ rfl
        have hspot : spot = none := by simpa [Addr.add] using World.cell?_spot h00
        subst hspot
        refine .inr ⟨b, off, rfl, ?_, fun i hil => ?_⟩
        · simp only [Addr.add_lit] at h00
          by_cases hb : b < w.heap.size
          · exact hb
          · rw [World.cell?, Array.getElem?_eq_none (show w.heap.size ≤ b by omega)] at h00
            simp at h00
        · rw [List.length_map, List.length_range] at hil
          have e : ((List.range len).map T).getD i default = T i := by simp [List.getD, hil]
          rw [e]
          have hc := (hT i hil).2
          simp only [Addr.add_lit] at hc
          exact fun j u hu => hc j u hu
end
/-! Who is there, of a list. -/
/-- Is it one of that number? -/
def tst (no : Int) (p : Pk) : Bool := (p.no == no) && attG p
def whoF (no : Int) (s : Nat) (p : Pk) : Nat := if tst no p = true then s ||| Nodes.bitN p.key.2.1 else s
def whoN (no : Int) (l : List Pk) : Nat := l.foldl (whoF no) 0
theorem who_nil (no : Int) : whoN no [] = 0 := rfl
theorem who_snoc (no : Int) (l : List Pk) (x : Pk) : whoN no (l ++ [x]) = whoF no (whoN no l) x := by
  unfold whoN
  rw [List.foldl_append]
  rfl
theorem who_yes {no : Int} {l : List Pk} {x : Pk} (h : tst no x = true) : whoN no (l ++ [x]) = whoN no l ||| Nodes.bitN x.key.2.1 := by
  rw [who_snoc]; unfold whoF; rw [if_pos h]
theorem who_no {no : Int} {l : List Pk} {x : Pk} (h : tst no x = false) : whoN no (l ++ [x]) = whoN no l := by
  rw [who_snoc]; unfold whoF; rw [if_neg (by rw [h]; decide)]
theorem fold_lt (no : Int) (l : List Pk) : ∀ s, s < 18446744073709551616 → l.foldl (whoF no) s < 18446744073709551616 := by
  induction l with
  | nil => exact fun s h => h
  | cons x l ih =>
    intro s h
    rw [List.foldl_cons]
    refine ih _ ?_
    unfold whoF
    split
    · exact Nodes.or_lt h (Nodes.bitN_lt _)
    · exact h
theorem who_lt (no : Int) (l : List Pk) : whoN no l < 18446744073709551616 := fold_lt no l 0 (by decide)
theorem fold_bit (no : Int) (j : Nat) (hj : j < 64) (l : List Pk) : ∀ s, (l.foldl (whoF no) s).testBit j = (s.testBit j || l.any fun p => tst no p && decide ((j : Int) = p.key.2.1)) := by
  induction l with
  | nil => intro s; simp
  | cons x l ih =>
    intro s
    rw [List.foldl_cons, ih, List.any_cons]
    unfold whoF
    cases h : tst no x with
    | true => rw [if_pos rfl, Nat.testBit_or, Nodes.bit_bitN, decide_eq_true hj, Bool.true_and, Bool.or_assoc]
    | false => rw [if_neg (by decide), Bool.false_and, Bool.false_or]
/-- The set hangs on nothing but on which packets there are. -/
theorem who_same (no : Int) {l m : List Pk} (h : ∀ f : Pk → Bool, l.any f = m.any f) : whoN no l = whoN no m :=
  Nodes.eq_of_bits (who_lt _ _) (who_lt _ _) fun j hj => by
    unfold whoN
    rw [fold_bit no j hj, fold_bit no j hj, h]
theorem who_twice (no : Int) (l : List Pk) : whoN no (l ++ l) = whoN no l := who_same no fun f => by rw [List.any_append, Bool.or_self]
theorem who_back (no : Int) (l : List Pk) : whoN no l.reverse = whoN no l := who_same no fun f => by rw [List.any_reverse]
/-- With one more node. -/
theorem with_one (S : Nat) (h : S < 18446744073709551616) (z : Int) : Nodes.withN S [z] = S ||| Nodes.bitN z := by
  have := Nodes.with_snoc S [] z
  rwa [Nodes.with_nil h, List.nil_append] at this
/-- The bit of a node. -/
theorem bit_shl (z : Nat) (h : z < 64) : IntKind.u64.wrap (2 ^ z) = ((Nodes.bitN z : Nat) : Int) := by
  rw [IntKind.wrap_u64]
  unfold Nodes.bitN
  rw [if_pos (by omega), Int.toNat_natCast]
  have : 2 ^ z < 18446744073709551616 := Nat.pow_lt_pow_right (a := 2) (m := z) (n := 64) (by decide) h
  have e : (2 : Int) ^ z = ((2 ^ z : Nat) : Int) := by simp
  rw [e]
  generalize 2 ^ z = b at this ⊢
  omega
end Go.Proofs.Ytepcbklokcfbfaa.Att
