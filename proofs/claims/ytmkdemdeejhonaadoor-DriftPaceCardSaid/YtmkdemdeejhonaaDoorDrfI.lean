/- Layer 28's laws: by how much clocks go on, out of the slice that came in. -/
import Derived.Test.YtmkdemdeejhonaaDoorDrfH
import Derived.Test.YtmkdemdeejhonaaDoorDrfW
namespace Go.Proofs.YtmkdemdeejhonaaDoor.Drf
open Go.RowKit Go.ChangeShapes Go.WideShapes Go.ChangeAt
open Go.Proofs.YtmkdemdeejhonaaDoor.Rw
set_option linter.unusedVariables false
set_option linter.unusedSimpArgs false
theorem byte_bd {x : Int} (h : (Lit.int .u8 x).wf = true) : 0 ≤ x ∧ x ≤ 255 := bounds_u8 h
theorem by_cell {w : World} {G : Nat} {a : Option Addr} {len cap : Nat} {ts : List (Int × Int × Int)} (h : S3_u8 w G a len cap ts) {i : Nat} (hi : i < len) :
    ∃ b off, a = some ⟨b, off, none⟩ ∧ b < w.heap.size ∧ ∀ k, k < 3 → ∃ y : Int, 0 ≤ y ∧ y ≤ 255 ∧ ∀ W, Below w.heap.size w W → W.cell? ⟨b, off + i * 3 + k, none⟩ = some (.int .u8 y) := by
  obtain ⟨b, off, ha, hb, hat⟩ := Rw.Rd.at_ h.rd (i := i) (by rw [h.len_]; exact hi)
  have hok := h.ok (ts.getD i default) (by
    have hl : i < ts.length := by rw [h.len_]; exact hi
    simp [List.getD, hl])
  generalize ts.getD i default = t at *
  obtain ⟨o0, o1, o2⟩ := hok
  refine ⟨b, off, ha, hb, fun k hk => ?_⟩
  match k, hk with
  | 0, _ => exact ⟨t.1, (byte_bd o0).1, (byte_bd o0).2, fun W hB => (hB.cell (p := ⟨b, off + i * 3 + 0, none⟩) hb).trans (hat 0 _ rfl)⟩
  | 1, _ => exact ⟨t.2.1, (byte_bd o1).1, (byte_bd o1).2, fun W hB => (hB.cell (p := ⟨b, off + i * 3 + 1, none⟩) hb).trans (hat 1 _ rfl)⟩
  | 2, _ => exact ⟨t.2.2, (byte_bd o2).1, (byte_bd o2).2, fun W hB => (hB.cell (p := ⟨b, off + i * 3 + 2, none⟩) hb).trans (hat 2 _ rfl)⟩
theorem own_lit0 (w : World) : I64s.OwnL (w.alloc (.cells #[] 2)) w.heap.size (.slice (some ⟨w.heap.size, 0, none⟩) 0 0) [] := World.ownsRow_lit (size := 1) w #[] 0 (Nat.le_refl _) (by unfold maxLen; omega) rfl
theorem box32 (w w0 : World) (x0 x1 x2 s d : Int) (h : w0 = (w.alloc (.cells #[.int .u32 x0, .int .u32 x1, .int .u32 x2] 42)).alloc (.cells #[.int .u8 s, .int .u8 d] 43)) :
    Below w.heap.size w w0 ∧ ∀ W, Below w0.heap.size w0 W → W.cell? ⟨w.heap.size, 0, none⟩ = some (.int .u32 x0) ∧ W.cell? ⟨w.heap.size, 1, none⟩ = some (.int .u32 x1) ∧ W.cell? ⟨w.heap.size, 2, none⟩ = some (.int .u32 x2) ∧
      W.cell? ⟨w.heap.size + 1, 0, none⟩ = some (.int .u8 s) ∧ W.cell? ⟨w.heap.size + 1, 1, none⟩ = some (.int .u8 d) := by
  subst h
  refine ⟨((Below.refl _ _).alloc (Nat.le_refl _) _).alloc (by simp) _, fun W hB => ?_⟩
  have hb := ((Blk.new w 42 #[.int .u32 x0, .int .u32 x1, .int .u32 x2]).alloc (.cells #[.int .u8 s, .int .u8 d] 43)).below hB
  have hc := (Blk.new (w.alloc (.cells #[.int .u32 x0, .int .u32 x1, .int .u32 x2] 42)) 43 #[.int .u8 s, .int .u8 d]).below hB
  rw [World.size_alloc] at hc
  exact ⟨hb.cell 0, hb.cell 1, hb.cell 2, hc.cell 0, hc.cell 1⟩
theorem set_at (Z : List Int) (q : Nat) (v : Int) (i : Nat) (hq : q < Z.length) : (Z.set q v).getD i 0 = if i = q then v else Z.getD i 0 := by
  by_cases h : i = q
  · subst h
    simp [List.getD, hq]
  · rw [if_neg h]
    simp [List.getD, List.getElem?_set, Ne.symm h]
end Go.Proofs.YtmkdemdeejhonaaDoor.Drf
