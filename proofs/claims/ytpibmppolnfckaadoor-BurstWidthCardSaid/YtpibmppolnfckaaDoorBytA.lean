/- Bytes in memory: slices of bytes that read as a list, those of the call's own, and their texts. -/
import Derived.Test.YtpibmppolnfckaaDoorRows
import Derived.WalkKit
import Derived.WalkLawsBesides
import Derived.WalkSpells
import Derived.ProofKit
import Derived.Handy
import Derived.Lib.Hide
import Derived.Laws.BytesArg
import Derived.Laws.IdiomStrings
import Derived.Maps.AppendAt
import Derived.Test.YtpibmppolnfckaaDoorRowX
namespace Go.Proofs.YtpibmppolnfckaaDoor.Byt
open Go.ChangeShapes Go.WideShapes Go.ChangeAt Go.RowKit
set_option linter.unusedVariables false

def bv (x : UInt8) : Value := .int .u8 (x.toNat : Int)
def bvs (l : List UInt8) : List Value := l.map bv
theorem bvs_len (l : List UInt8) : (bvs l).length = l.length := List.length_map ..
theorem bvs_append (l m : List UInt8) : bvs (l ++ m) = bvs l ++ bvs m := List.map_append
theorem bvs_oneCell (l : List UInt8) : ∀ u ∈ bvs l, u.oneCell' = true := by
  intro u hu
  obtain ⟨x, _, rfl⟩ := List.mem_map.1 hu
  rfl
/-- A slice of bytes that reads as a list. -/
def RdB (w : World) (ad : Option Addr) (l : List UInt8) : Prop :=
  l = [] ∨ ∃ b off, ad = some ⟨b, off, none⟩ ∧ ∀ i, i < l.length → w.cell? ⟨b, off + i, none⟩ = some (.int .u8 ((l.getD i 0).toNat : Int))
theorem RdB.at {w : World} {ad : Option Addr} {l : List UInt8} (h : RdB w ad l) {k : Nat} (hk : k < l.length) : ∃ b off, ad = some ⟨b, off, none⟩ ∧ w.cell? ⟨b, off + k, none⟩ = some (.int .u8 ((l.getD k 0).toNat : Int)) := by
  rcases h with rfl | ⟨b, off, e, hc⟩
  · simp at hk
  · exact ⟨b, off, e, hc k hk⟩
theorem take_snoc {l : List UInt8} {k : Nat} (hk : k < l.length) : l.take (k + 1) = l.take k ++ [l.getD k 0] := by
  rw [List.take_succ_eq_append_getElem hk]; simp [hk]
theorem RdB.nil (w : World) (ad : Option Addr) : RdB w ad [] := .inl rfl
theorem RdB.take {w : World} {ad : Option Addr} {l : List UInt8} (h : RdB w ad l) (k : Nat) : RdB w ad (l.take k) := by
  rcases h with rfl | ⟨b, off, e, hc⟩
  · exact .inl (by simp)
  · refine .inr ⟨b, off, e, fun i hi => ?_⟩
    rw [List.length_take] at hi
    rw [hc i (by omega)]
    simp [List.getD, show i < k from by omega]
theorem RdB.drop {w : World} {b off : Nat} {l : List UInt8} (h : RdB w (some ⟨b, off, none⟩) l) (k : Nat) : RdB w (some ⟨b, off + k, none⟩) (l.drop k) := by
  rcases h with rfl | ⟨b', off', e, hc⟩
  · exact .inl (by simp)
  · cases e
    refine .inr ⟨b, off + k, rfl, fun i hi => ?_⟩
    rw [List.length_drop] at hi
    rw [Nat.add_assoc, hc (k + i) (by omega)]
    simp [List.getD]
theorem RdB.lt {w : World} {b off : Nat} {l : List UInt8} (hc : ∀ i, i < l.length → w.cell? ⟨b, off + i, none⟩ = some (.int .u8 ((l.getD i 0).toNat : Int))) (h0 : 0 < l.length) : b < w.heap.size := by
  have h := hc 0 h0
  by_cases hb : b < w.heap.size
  · exact hb
  · rw [World.cell?, Array.getElem?_eq_none (show w.heap.size ≤ b by omega)] at h
    simp at h
theorem RdB.below {w w' : World} {ad : Option Addr} {l : List UInt8} (h : RdB w ad l) (hb : Below w.heap.size w w') : RdB w' ad l := by
  rcases h with h | ⟨b, off, e, hc⟩
  · exact .inl h
  · by_cases h0 : 0 < l.length
    · exact .inr ⟨b, off, e, fun i hi => (hb.cell (p := ⟨b, off + i, none⟩) (RdB.lt hc h0)).trans (hc i hi)⟩
    · exact .inl (List.eq_nil_of_length_eq_zero (by omega))
theorem RdB.cells {w : World} {ad : Option Addr} {l : List UInt8} (h : RdB w ad l) : ∀ a', ad = some a' → ∀ j u, (bvs l)[j]? = some u → w.cell? (a'.add j) = some u := by
  intro a' ha j u hj
  rcases h with h' | ⟨b, off, e, hc⟩
  · rw [h'] at hj; simp [bvs] at hj
  · obtain rfl : a' = ⟨b, off, none⟩ := by rw [ha] at e; exact Option.some.inj e
    rw [bvs, List.getElem?_map] at hj
    obtain ⟨y, hy, rfl⟩ := Option.map_eq_some_iff.1 hj
    have hjl : j < l.length := (List.getElem?_eq_some_iff.1 hy).1
    have := hc j hjl
    rw [Addr.add_lit, this]
    simp [List.getD, hy, bv]
/-- A slice that came in reads as a list of bytes. -/
theorem rd_of_row {w : World} {a : Option Addr} {len cap : Nat} {zs : List Int}
    (h : (a = none ∧ len = 0 ∧ cap = 0 ∧ zs = []) ∨ ∃ x, a = some x ∧ len ≤ cap ∧ cap ≤ maxLen ∧ zs.length = cap ∧ (∀ i, i < zs.length → w.cell? (x.add i) = some (.int .u8 (zs.getD i 0))) ∧ ∀ n ∈ zs, (Lit.int .u8 n).wf = true) :
    ∃ l : List UInt8, Hid (RdB w a l) ∧ Hid (l.length = len) ∧ len ≤ cap ∧ cap ≤ 9223372036854775807 ∧ Hid (a = none → cap = 0) ∧ (len = 0 ∨ ∃ b off, a = some ⟨b, off, none⟩) := by
  rcases h with ⟨rfl, rfl, rfl, _⟩ | ⟨x, rfl, hl, hm, hz, hcell, hwf⟩
  · exact ⟨[], Lib.hid (RdB.nil _ _), Lib.hid rfl, Nat.le_refl _, by omega, Lib.hid (fun _ => rfl), .inl rfl⟩
  · unfold maxLen at hm
    by_cases h0 : len = 0
    · exact ⟨[], Lib.hid (RdB.nil _ _), Lib.hid (by rw [h0]; rfl), hl, by omega, Lib.hid (fun h => by cases h), .inl h0⟩
    · obtain ⟨b, off, rfl, hc⟩ := ints_at hcell (by omega)
      refine ⟨(zs.take len).map fun n => UInt8.ofNat n.toNat, Lib.hid (.inr ⟨b, off, rfl, fun i hi => ?_⟩), Lib.hid (by rw [List.length_map, List.length_take]; omega), hl, by omega, Lib.hid (fun h => by cases h), .inr ⟨b, off, rfl⟩⟩
      rw [List.length_map, List.length_take] at hi
      have hi2 : i < zs.length := by omega
      have h1 := hc i (by first | exact hi2 | omega)
      have hmem : zs[i] ∈ zs := List.getElem_mem hi2
      have hw := hwf _ hmem
      have hb := bounds_u8 hw
      rw [h1]
      have e1 : zs.getD i 0 = zs[i] := by simp [hi2]
      have e2 : ((zs.take len).map fun n => UInt8.ofNat n.toNat).getD i 0 = UInt8.ofNat (zs[i]).toNat := by
        simp [List.getD, show i < len by omega, hi2]
      rw [e1, e2]
      generalize zs[i] = z at *
      rw [show ((UInt8.ofNat z.toNat).toNat : Int) = z from by rw [UInt8.toNat_ofNat']; omega]

theorem infoByte : (Tryd.prog.info? 5).map (fun i => (i.zero, i.size, i.bytes)) = some (some (.int .u8 0), 1, 1) := by kernel_rfl
/-- A slice of bytes of the call's own. -/
def OwnB (W : World) (base : Nat) (v : Value) (l : List UInt8) : Prop := W.ownsRow base 5 1 v l.length (bvs l)
theorem OwnB.rd {W : World} {base n cap : Nat} {ad : Option Addr} {l : List UInt8} (h : OwnB W base (.slice ad n cap) l) : RdB W ad l ∧ n = l.length := by
  have h' := h
  rcases h'.2 with ⟨hv, hz⟩ | ⟨g, cap', cur, hv, _⟩
  · cases hv
    exact ⟨.inl (List.eq_nil_of_length_eq_zero hz), hz.symm⟩
  · simp only [Value.slice.injEq] at hv
    obtain ⟨rfl, rfl, rfl⟩ := hv
    refine ⟨.inr ⟨g, 0, rfl, fun i hi => ?_⟩, rfl⟩
    have := World.ownsRow.cellAt h i (by omega)
    rw [Nat.zero_add, this]
    simp [bvs, bv, hi]
theorem OwnB.pos {W : World} {base n cap : Nat} {ad : Option Addr} {l : List UInt8} (h : OwnB W base (.slice ad n cap) l) : l.length ≤ cap ∧ cap ≤ maxLen ∧ (ad = none → cap = 0) ∧ (0 < cap → ∃ g, ad = some ⟨g, 0, none⟩ ∧ base ≤ g ∧ g < W.heap.size) := by
  have h' := h
  rcases h'.2 with ⟨hv, hz⟩ | ⟨g, cap', cur, hv, hb, hg, hn, hm, _⟩
  · cases hv
    exact ⟨by omega, by unfold maxLen; omega, fun _ => rfl, fun h => absurd h (by omega)⟩
  · simp only [Value.slice.injEq] at hv
    obtain ⟨rfl, rfl, rfl⟩ := hv
    exact ⟨hn, hm, (fun h => by cases h), fun _ => ⟨g, rfl, hb, (Array.getElem?_eq_some_iff.1 hg).1⟩⟩
theorem OwnB.alloc {W : World} {base : Nat} {v : Value} {l : List UInt8} (h : OwnB W base v l) (o : Obj) : OwnB (W.alloc o) base v l := World.ownsRow.alloc h o
theorem OwnB.below {W W' : World} {base : Nat} {v : Value} {l : List UInt8} (h : OwnB W base v l) (hb : Below W.heap.size W W') : OwnB W' base v l :=
  World.ownsRow.kept h (row := Option.none) ⟨hb.os, hb.tape, hb.output, hb.size, fun k hk _ => hb.block k hk⟩ (by
    cases hv : v.ownBlock with
    | none => exact .inl rfl
    | some g => exact .inr (by simp))
/-- What a call leaves that hands back bytes. -/
def BytesPost (l : List UInt8) (w : World) (e : Ending) (w' : World) : Prop :=
  ∃ ad cap, e = .returned (.slice ad l.length cap) ∧ OwnB w' w.heap.size (.slice ad l.length cap) l ∧ Below w.heap.size w w'
def strB (l : List UInt8) : ByteArray := ⟨l.toArray⟩
theorem strB_inj {l m : List UInt8} : strB l = strB m ↔ l = m := by
  constructor
  · intro h
    have := congrArg (fun b : ByteArray => b.data.toList) h
    simpa [strB] using this
  · rintro rfl; rfl
/-- string(b). -/
theorem run_str {w : World} {ad : Option Addr} {n cap : Nat} {l : List UInt8} (h : RdB w ad l) (hn : n = l.length) (hnil : ad = none ∨ ∃ b off, ad = some ⟨b, off, none⟩) :
    (convert 22 9 (.slice ad n cap)).run Tryd.prog w = .ok (.string (strB l)) w := by
  subst hn
  rcases hnil with rfl | ⟨b, off, rfl⟩
  · rcases h with rfl | ⟨b, off, e, hc⟩
    · exact run_convert_bytes_nil w _ 5 Tryd.underlying22 Tryd.underlying5 _ _ _ Tryd.underlying9
    · cases e
  · have hcc : ∀ i, i < l.length → w.cell? ⟨b, off + i, none⟩ = some (.int .u8 ((l.map fun x => (x.toNat : Int)).getD i 0)) := by
      rcases h with rfl | ⟨b', off', e, hc⟩
      · intro i hi; simp at hi
      · cases e
        intro i hi
        rw [hc i hi]
        simp [List.getD, hi]
    rw [run_convert_bytes_arg w _ 5 Tryd.underlying22 Tryd.underlying5 b off l.length cap (l.map fun x => (x.toNat : Int)) (by simp) hcc _ Tryd.underlying9]
    congr 2
    unfold strOfNums strB
    rw [List.map_map]
    congr 2
    conv => rhs; rw [← List.map_id l]
    congr 1
    funext x
    simp
/-- string(b), whatever the address of a slice without bytes. -/
theorem run_str_any {w : World} {ad : Option Addr} {n cap : Nat} {l : List UInt8} (h : RdB w ad l) (hn : n = l.length) :
    (convert 22 9 (.slice ad n cap)).run Tryd.prog w = .ok (.string (strB l)) w := by
  rcases h with rfl | ⟨b, off, e, hc⟩
  · subst hn
    cases ad with
    | none => exact run_str (.inl rfl) rfl (.inl rfl)
    | some a =>
      have hl : (loadCells a 0).run Tryd.prog w = .ok (([] : List Int).map (Value.int .u8)).toArray w := by
        have := run_loadCells_list (P := Tryd.prog) w a (([] : List Int).map (Value.int .u8)) (fun j v hj => by simp at hj)
        simpa using this
      show (convert 22 9 (.slice (some a) 0 cap)).run Tryd.prog w = _
      rw [run_convert_bytes_string w 22 9 5 _ 0 cap Tryd.underlying22 Tryd.underlying5 Tryd.underlying9, run_bytesToString w _ 0 cap [] hl]
      rfl
  · exact run_str (.inr ⟨b, off, e, hc⟩) hn (.inr ⟨b, off, e⟩)
theorem OwnB.form {W : World} {base n cap : Nat} {ad : Option Addr} {l : List UInt8} (h : OwnB W base (.slice ad n cap) l) : ad = none ∨ ∃ b off, ad = some ⟨b, off, none⟩ := by
  rcases h.2 with ⟨hv, hz⟩ | ⟨g, cap', cur, hv, _⟩
  · cases hv; exact .inl rfl
  · simp only [Value.slice.injEq] at hv
    exact .inr ⟨g, 0, hv.1⟩
theorem OwnB.str {W W' : World} {base n cap : Nat} {ad : Option Addr} {l : List UInt8} (h : OwnB W base (.slice ad n cap) l) (hB : Below W.heap.size W W') :
    (convert 22 9 (.slice ad n cap)).run Tryd.prog W' = .ok (.string (strB l)) W' := run_str (h.rd.1.below hB) h.rd.2 h.form
end Go.Proofs.YtpibmppolnfckaaDoor.Byt
