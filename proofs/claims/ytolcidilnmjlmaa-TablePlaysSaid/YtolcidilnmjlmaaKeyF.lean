/- Contracts of package key (layer 6): what was seen already (a map by keys, behind a function value). -/
import Derived.Test.YtolcidilnmjlmaaKeyE
import Derived.Test.YtolcidilnmjlmaaTabA
import Derived.Maps.AppendAt
namespace Go.Proofs.Ytolcidilnmjlmaa.Key
open Go.ChangeShapes Go.WideShapes Go.ChangeAt Go.RowKit Go.Sort
open Go.WideMaps (KeyLaw)
set_option linter.unusedVariables false
theorem laidOutK : laidOutB Try.prog = true := by kernel_rfl
theorem rowK : (34 : TypeId) < Try.prog.types.size := of_decide_eq_true (by kernel_rfl)
theorem wideK : (match Try.prog.underlying 34 with | some (.array _ _) | some (.struct _) => true | _ => false) = true := by rw [Try.underlying34]
set_option maxRecDepth 100000 in
theorem lawK : KeyLaw Try.prog 34 := deep_law_laid laidOutK (m := 2) (by omega) rowK (by kernel_rfl) wideK
theorem litsK (a b c : Int) (h1 : (Lit.int .i64 a).wf = true) (h2 : (Lit.int .i64 b).wf = true) (h3 : (Lit.int .u32 c).wf = true) :
    Try.prog.keyLits (Try.prog.types.size + 1) 34 [.int .i64 a, .int .i64 b, .int .u32 c] = some [.int .i64 a, .int .i64 b, .int .u32 c] := by
  obtain ⟨m, hm⟩ : ∃ m, Try.prog.types.size = m + 1 := Nat.exists_eq_add_one_of_ne_zero (fun h => by have h' := rowK; rw [h] at h'; exact absurd h' (Nat.not_lt_zero _))
  have c0 : Try.prog.cellsOf 34 = 3 := by kernel_rfl
  have c1 : Try.prog.cellsOf 2 = 1 := by kernel_rfl
  have c2 : Try.prog.cellsOf 3 = 1 := by kernel_rfl
  have c3 : Try.prog.cellsOf 32 = 1 := by kernel_rfl
  rw [hm]
  simp [Program.keyLits, Try.underlying34, Try.underlying2, Try.underlying3, Try.underlying32, c0, c1, c2, c3, h1, h2, h3]
theorem key_read (x : Ky) (hx : ok x) : ∃ kl, keyOf Try.prog 34 (kval x) = some kl := by
  obtain ⟨a, b, c⟩ := x
  unfold ok at hx
  simp only at hx
  have h1 : (Lit.int .i64 a).wf = true := by simp [Lit.wf, IntKind.min, IntKind.max, IntKind.bits, IntKind.signed]; omega
  have h2 : (Lit.int .i64 b).wf = true := by simp [Lit.wf, IntKind.min, IntKind.max, IntKind.bits, IntKind.signed]; omega
  have h3 : (Lit.int .u32 c).wf = true := by simp [Lit.wf, IntKind.min, IntKind.max, IntKind.bits, IntKind.signed]; omega
  have hu := Try.underlying34
  have hk : Try.prog.keyType 34 = true := by kernel_rfl
  have hf : (kval (a, b, c)).formed Try.prog 34 = true := by
    have hc : Try.prog.cellsOf 34 = 3 := by kernel_rfl
    simp [kval, Value.formed, hu, hc]
  unfold keyOf
  rw [hu]
  simp only [hk, hf, Bool.and_self, if_true]
  have : (kval (a, b, c)).cells.toList = [.int .i64 a, .int .i64 b, .int .u32 c] := rfl
  rw [this, litsK a b c h1 h2 h3]
  exact ⟨_, rfl⟩
theorem infoInt : (Try.prog.info? 3).map (fun i => (i.zero, i.size, i.bytes)) = some (some (.int .i64 0), 1, 8) := by kernel_rfl
theorem zeroInt (w : World) : (zeroValue 3).run Try.prog w = .ok (.int .i64 0) w := by kernel_rfl
def cval (c : Nat) : Option Value := if c = 0 then none else some (.int .i64 (c : Int))
/-- What was seen of a list by then: the map that the function value leads to. -/
def Seen (w : World) (bv b : Nat) (l : List Ky) : Prop :=
  w.cell? ⟨bv, 0, none⟩ = some (.map (some b)) ∧ bv ≠ b ∧ bv < w.heap.size ∧ ∃ g, Tb.Is Try.prog 34 kval w b l.length g ∧ ∀ y, g y = cval (l.count y)
theorem Seen.below {w w' : World} {bv b : Nat} {l : List Ky} (h : Seen w bv b l) (hB : Below w.heap.size w w') : Seen w' bv b l := by
  obtain ⟨h1, h2, h3, g, h4, h5⟩ := h
  exact ⟨(hB.cell (p := ⟨bv, 0, none⟩) h3).trans h1, h2, Nat.lt_of_lt_of_le h3 hB.size, g, h4.below hB, h5⟩
theorem seen_count (l : List Ky) (x : Ky) : inK l x = decide (0 < l.count x) := by
  unfold inK; rw [decide_eq_decide, List.count_pos_iff]
end Go.Proofs.Ytolcidilnmjlmaa.Key
