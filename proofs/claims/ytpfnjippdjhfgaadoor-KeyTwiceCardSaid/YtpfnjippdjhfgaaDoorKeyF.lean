/- Contracts of package key (layer 6): what was seen already (a map by keys, behind a function value). -/
import Derived.Test.YtpfnjippdjhfgaaDoorKeyE
import Derived.Test.YtpfnjippdjhfgaaDoorTabA
import Derived.Maps.AppendAt
namespace Go.Proofs.YtpfnjippdjhfgaaDoor.Key
open Go.ChangeShapes Go.WideShapes Go.ChangeAt Go.RowKit Go.Sort
open Go.WideMaps (KeyLaw)
set_option linter.unusedVariables false
theorem laidOutK : laidOutB Tryd.prog = true := by kernel_rfl
theorem rowK : (24 : TypeId) < Tryd.prog.types.size := of_decide_eq_true (by kernel_rfl)
theorem wideK : (match Tryd.prog.underlying 24 with | some (.array _ _) | some (.struct _) => true | _ => false) = true := by rw [Tryd.underlying24]
theorem lawK : KeyLaw Tryd.prog 24 := deep_law_laid laidOutK (m := 2) (by omega) rowK (by kernel_rfl) wideK
theorem litsK (a b c : Int) (h1 : (Lit.int .i64 a).wf = true) (h2 : (Lit.int .i64 b).wf = true) (h3 : (Lit.int .u32 c).wf = true) :
    Tryd.prog.keyLits (Tryd.prog.types.size + 1) 24 [.int .i64 a, .int .i64 b, .int .u32 c] = some [.int .i64 a, .int .i64 b, .int .u32 c] := by
  obtain ⟨m, hm⟩ : ∃ m, Tryd.prog.types.size = m + 1 := Nat.exists_eq_add_one_of_ne_zero (fun h => by have h' := rowK; rw [h] at h'; exact absurd h' (Nat.not_lt_zero _))
  have c0 : Tryd.prog.cellsOf 24 = 3 := by kernel_rfl
  have c1 : Tryd.prog.cellsOf 2 = 1 := by kernel_rfl
  have c2 : Tryd.prog.cellsOf 3 = 1 := by kernel_rfl
  have c3 : Tryd.prog.cellsOf 22 = 1 := by kernel_rfl
  rw [hm]
  simp [Program.keyLits, Tryd.underlying24, Tryd.underlying2, Tryd.underlying3, Tryd.underlying22, c0, c1, c2, c3, h1, h2, h3]
theorem key_read (x : Ky) (hx : ok x) : ∃ kl, keyOf Tryd.prog 24 (kval x) = some kl := by
  obtain ⟨a, b, c⟩ := x
  unfold ok at hx
  simp only at hx
  have h1 : (Lit.int .i64 a).wf = true := by simp [Lit.wf, IntKind.min, IntKind.max, IntKind.bits, IntKind.signed]; omega
  have h2 : (Lit.int .i64 b).wf = true := by simp [Lit.wf, IntKind.min, IntKind.max, IntKind.bits, IntKind.signed]; omega
  have h3 : (Lit.int .u32 c).wf = true := by simp [Lit.wf, IntKind.min, IntKind.max, IntKind.bits, IntKind.signed]; omega
  have hu := Tryd.underlying24
  have hk : Tryd.prog.keyType 24 = true := by kernel_rfl
  have hf : (kval (a, b, c)).formed Tryd.prog 24 = true := by
    have hc : Tryd.prog.cellsOf 24 = 3 := by kernel_rfl
    simp [kval, Value.formed, hu, hc]
  unfold keyOf
  rw [hu]
  simp only [hk, hf, Bool.and_self, if_true]
  have : (kval (a, b, c)).cells.toList = [.int .i64 a, .int .i64 b, .int .u32 c] := rfl
  rw [this, litsK a b c h1 h2 h3]
  exact ⟨_, rfl⟩
theorem infoInt : (Tryd.prog.info? 3).map (fun i => (i.zero, i.size, i.bytes)) = some (some (.int .i64 0), 1, 8) := by kernel_rfl
theorem zeroInt (w : World) : (zeroValue 3).run Tryd.prog w = .ok (.int .i64 0) w := by kernel_rfl
def cval (c : Nat) : Option Value := if c = 0 then none else some (.int .i64 (c : Int))
/-- What was seen of a list by then: the map that the function value leads to. -/
def Seen (w : World) (bv b : Nat) (l : List Ky) : Prop :=
  w.cell? ⟨bv, 0, none⟩ = some (.map (some b)) ∧ bv ≠ b ∧ bv < w.heap.size ∧ ∃ g, Tb.Is Tryd.prog 24 kval w b l.length g ∧ ∀ y, g y = cval (l.count y)
theorem Seen.below {w w' : World} {bv b : Nat} {l : List Ky} (h : Seen w bv b l) (hB : Below w.heap.size w w') : Seen w' bv b l := by
  obtain ⟨h1, h2, h3, g, h4, h5⟩ := h
  exact ⟨(hB.cell (p := ⟨bv, 0, none⟩) h3).trans h1, h2, Nat.lt_of_lt_of_le h3 hB.size, g, h4.below hB, h5⟩
theorem seeing_any (w : World) : Calls Tryd.prog 30 #[] w fun e w' => ∃ bv b, e = .returned (.func (.func 38) #[] #[.pointer (some ⟨bv, 0, none⟩)]) ∧ Seen w' bv b [] ∧ w.heap.size ≤ bv ∧ w.heap.size ≤ b ∧ Below w.heap.size w w' := by
  have hmm := @run_makeMap Tryd.prog
  have HT : Hid (Tb.Is Tryd.prog 24 kval (w.alloc (.map #[] 0)) w.heap.size 0 (fun _ => none)) := Lib.hid (Tb.Is.made w)
  have HB : Hid (Below w.heap.size w ((w.alloc (.map #[] 0)).alloc (.cells #[.map (some w.heap.size)] 57))) := Lib.hid ((box_below _ _).alloc (by simp) _)
  go_enter Tryd.func30, Tryd.ntmps30
  go_wp2_with fail
  go_ret
  have hc := (MapKept.heap_alloc (w.alloc (.map #[] 0)) (.cells #[.map (some w.heap.size)] 57)).1
  rw [World.size_alloc] at hc
  refine ⟨_, w.heap.size, rfl, ⟨?_, by omega, by simp, fun _ => none, ?_, fun y => by simp [cval]⟩, by omega, Nat.le_refl _, HB.out⟩
  · simp only [World.cell?, hc]; rfl
  · exact HT.out.below (box_below _ _)
theorem seen_count (l : List Ky) (x : Ky) : inK l x = decide (0 < l.count x) := by
  unfold inK; rw [decide_eq_decide, List.count_pos_iff]
theorem seen_any (x : Ky) (hx : ok x) (bv b : Nat) (l : List Ky) (hl : l.length < 9223372036854775807) (w : World) (h : Seen w bv b l) :
    Calls Tryd.prog 38 #[kval x, .pointer (some ⟨bv, 0, none⟩)] w fun e w' => e = .returned (.bool (inK l x)) ∧ Seen w' bv b (l ++ [x]) ∧ w.grownBy w' (some b) := by
  obtain ⟨kl, hkl⟩ := key_read x hx
  obtain ⟨hv, hne, hlt, g, hI, hg⟩ := h
  have hcnt : l.count x ≤ l.length := List.count_le_length
  have hgx := hg x
  have HV := Lib.hid (seen_count l x)
  have HG : Hid (∀ y, Tb.upd g x (.int .i64 (((l.count x : Nat) : Int) + 1)) y = cval ((l ++ [x]).count y)) := Lib.hid (fun y => by
    unfold Tb.upd
    rw [List.count_append]
    by_cases hy : y = x
    · subst hy
      rw [if_pos rfl]
      simp [cval]
    · rw [if_neg hy, hg y, List.count_singleton, if_neg (by simpa using fun e => hy e.symm)]; rfl)
  obtain ⟨w0, hw0⟩ : ∃ w0, Hid (w0 = w.alloc (.cells #[.int .i64 x.1, .int .i64 x.2.1, .int .u32 x.2.2] 24)) := ⟨_, Lib.hid rfl⟩
  have hB0 : Below w.heap.size w w0 := by rw [hw0.out]; exact box_below _ _
  have hlt0 : w.heap.size < w0.heap.size := by rw [hw0.out, World.size_alloc]; omega
  have hX : Rw.At enc w0 w.heap.size 0 x := by rw [hw0.out]; exact Rw.At.box w x _ rfl
  have hbl := hI.lt
  have hI0 : Tb.Is Tryd.prog 24 kval w0.drew b l.length g := (hI.below hB0).of_block rfl
  have hgd : (g x).getD (.int .i64 0) = .int .i64 ((l.count x : Nat) : Int) := by
    rw [hgx]; unfold cval
    by_cases h0 : l.count x = 0
    · rw [if_pos h0, h0]; rfl
    · rw [if_neg h0]; rfl
  have e1 := hI0.look lawK kval_inj Tryd.underlying57 zeroInt hkl false
  simp only [Bool.false_eq_true, if_false] at e1
  rw [hgd] at e1
  obtain ⟨st, w1, e2, hg1, hI1, hst⟩ := hI0.entry lawK kval_inj Tryd.underlying57 (by unfold maxLen; omega) zeroInt hkl
  rw [hgd] at e2 hI1
  have e3 := hI1.look lawK kval_inj Tryd.underlying57 zeroInt hkl false
  simp only [Bool.false_eq_true, if_false, Tb.upd, if_true, Option.getD_some] at e3
  obtain ⟨w3, e4, hg3, hI3⟩ := hst w1 (.int .i64 (((l.count x : Nat) : Int) + 1)) rfl
  have e5 := hI3.look lawK kval_inj Tryd.underlying57 zeroInt hkl false
  simp only [Bool.false_eq_true, if_false, Tb.upd, if_true, Option.getD_some] at e5
  have hw : IntKind.i64.wrap (((l.count x : Nat) : Int) + 1) = ((l.count x : Nat) : Int) + 1 := by rw [IntKind.wrap_i64]; omega
  have hwi : goInt (st : Int) = .int .i64 (st : Int) := rfl
  rw [hwi] at e2 e4
  have hneb : (w.heap.size : Nat) ≠ b := by omega
  have c0 : w0.cell? ⟨bv, 0, none⟩ = some (.map (some b)) := (hB0.cell (p := ⟨bv, 0, none⟩) hlt).trans hv
  have cc := at3 hX
  simp only [Nat.zero_add] at cc
  obtain ⟨c1, c2, c3⟩ := cc
  have HP : Hid (∀ W, w3.heap = W.heap → w3.tape = W.tape → w3.os = W.os → w3.output = W.output → Seen W bv b (l ++ [x]) ∧ w.grownBy W (some b)) := Lib.hid (fun W h1 h2 h3 h4 => by
    have ha : w.grownBy w0.drew (some b) := ⟨hB0.os, hB0.tape, hB0.output, hB0.size, fun k hk _ => hB0.block k hk⟩
    have hb := (ha.trans hg1).trans hg3
    have hc : w.grownBy W (some b) := ⟨by rw [← h3]; exact hb.os, by rw [← h2]; exact hb.tape, by rw [← h4]; exact hb.output, by rw [← h1]; exact hb.size, fun k hk hn => by rw [← h1]; exact hb.block k hk hn⟩
    refine ⟨⟨?_, hne, Nat.lt_of_lt_of_le hlt hc.size, _, ?_, HG.out⟩, hc⟩
    · exact hc.cell hv (by simpa using hne)
    · rw [List.length_append]
      exact hI3.of_block (by rw [h1]))
  have hcell : ∀ (a : Addr) (u : Value), w0.cell? a = some u → a.block ≠ b → w3.cell? a = some u := fun a u hc hn => hg3.cell (hg1.cell (w := w0.drew) hc (by simpa using hn)) (by simpa using hn)
  have k0 := hcell _ _ c0 hne
  have k1 := hcell _ _ c1 hneb
  have k2 := hcell _ _ c2 hneb
  have k3 := hcell _ _ c3 hneb
  have HR : Hid (decide (1 < ((l.count x : Nat) : Int) + 1) = inK l x) := Lib.hid (by rw [HV.out, decide_eq_decide]; omega)
  rw [← HR.out]
  clear HR HV HG hst hI1 hI3 hI0 hI hgd hgx hg hcell hX hbl hwi hcnt hkl hlt0
  have hB0 := Lib.hid hB0
  generalize ((l.count x : Nat) : Int) = c at *
  obtain ⟨p, q, s⟩ := x
  unfold kval at *
  simp only at e1 e2 e3 e5 c1 c2 c3 k1 k2 k3 hw0
  clear hx hg1 hg3 hl hB0 hv
  go_enter Tryd.func38, Tryd.ntmps38
  go_upto_region 1 with fail
  rw [← hw0.out]
  go_region
  go_wp2_with fail
  go_ret
  exact ⟨rfl, HP.out _ rfl rfl rfl rfl⟩
end Go.Proofs.YtpfnjippdjhfgaaDoor.Key
