/- Contracts for layer table (7): what a table is in memory; where a key stands in it. -/
import Derived.Test.YtolcidilnmjlmaaTblA
namespace Go.Proofs.Ytolcidilnmjlmaa.Tbl
open Go.ChangeShapes Go.WideShapes Go.ChangeAt Go.RowKit Go.Sort
open Go.Proofs.Ytolcidilnmjlmaa.Key Go.Proofs.Ytolcidilnmjlmaa.Rw
set_option linter.unusedVariables false
theorem less_gr (x y : Ky) (w : World) :
    Calls Try.prog 59 #[kval x, kval y] w fun e w' => e = .returned (.bool (ltK x y)) ∧ Gr w w' := by
  have HV := Lib.hid (cmp_lt x y)
  have C := Lib.hid (fun W => compare_any x y W)
  generalize ltK x y = r at *
  generalize cmpK x y = z at *
  obtain ⟨a, b, c⟩ := x
  obtain ⟨d, e, f⟩ := y
  have hB : Hid (Gr w ((w.alloc (.cells #[.int .i64 a, .int .i64 b, .int .u32 c] 34)).alloc (.cells #[.int .i64 d, .int .i64 e, .int .u32 f] 34))) := Lib.hid (((Gr.refl w).alloc _).alloc _)
  unfold kval at *
  go_enter Try.func59, Try.ntmps59
  go_wp2_with fail
  refine (C.out _).mono ?_; rintro e w' ⟨rfl, hG⟩
  have HB2 := Lib.hid (hB.out.trans hG)
  clear hG hB
  go_wp2_with fail
  go_ret
  exact ⟨by rw [HV.out]; rfl, HB2.out⟩
/-- The keys in order, one piece of them at most. -/
def Ord (w : World) (ov : Value) (ks : List Ky) (F : Nat → Prop) : Prop :=
  (ks = [] ∧ ∃ a c, ov = .slice a 0 c) ∨
  (ks ≠ [] ∧ ∃ ob oc pb pc, ov = .slice (some ⟨ob, 0, none⟩) 1 oc ∧ w.ownsRow 0 39 1 ov 1 [.slice (some ⟨pb, 0, none⟩) ks.length pc] ∧ OwnK w 0 (.slice (some ⟨pb, 0, none⟩) ks.length pc) ks ∧ F ob ∧ F pb)
def vof (d : List Row) (k : Ky) : Option Value := (lookR d k).map (.int .i64)
/-- A table. -/
def Tab (T : TypeId) (w : World) (g : Nat) (most : Int) (d : List Row) (F : Nat → Prop) : Prop :=
  ∃ mb ov, Blk w g T #[.int .i64 most, .map (some mb), ov] ∧ Tb.Is Try.prog 34 kval w mb d.length (vof d) ∧ Ord w ov (keys d) F ∧ Str (keys d) ∧ F g ∧ F mb ∧ ∀ k ∈ keys d, ok k
section
variable {w w' : World} {F : Nat → Prop} {ov : Value} {ks : List Ky}
theorem Ord.kept (h : Ord w ov ks F) (hs : w.heap.size ≤ w'.heap.size) (hb : ∀ k, F k → k < w.heap.size → w'.heap[k]? = w.heap[k]?) : Ord w' ov ks F := by
  rcases h with h | ⟨hne, ob, oc, pb, pc, rfl, h1, h2, h3, h4⟩
  · exact .inl h
  · obtain ⟨cur, a1, a2, a3, a4, a5, a6, a7⟩ := row_of h1
    obtain ⟨cur2, b1, b2, b3, b4, b5, b6, b7⟩ := row_of h2
    refine .inr ⟨hne, ob, oc, pb, pc, rfl, of_row ((hb ob h3 a1.lt).trans a1) (Nat.zero_le _) a2 a3 a4 a5, ?_, h3, h4⟩
    exact of_row ((hb pb h4 b1.lt).trans b1) (Nat.zero_le _) b2 b3 b4 b5
theorem Ord.mono {F' : Nat → Prop} (h : Ord w ov ks F) (hF : ∀ k, F k → F' k) : Ord w ov ks F' := by
  rcases h with h | ⟨hne, ob, oc, pb, pc, rfl, h1, h2, h3, h4⟩
  · exact .inl h
  · exact .inr ⟨hne, ob, oc, pb, pc, rfl, h1, h2, hF _ h3, hF _ h4⟩
variable {T : TypeId} {g : Nat} {most : Int} {d : List Row}
theorem Tab.mono {F' : Nat → Prop} (h : Tab T w g most d F) (hF : ∀ k, F k → F' k) : Tab T w g most d F' := by
  obtain ⟨mb, ov, h1, h2, h3, h4, h5, h6, h7⟩ := h
  exact ⟨mb, ov, h1, h2, h3.mono hF, h4, hF _ h5, hF _ h6, h7⟩
theorem Tab.kept (h : Tab T w g most d F) (hs : w.heap.size ≤ w'.heap.size) (hb : ∀ k, F k → k < w.heap.size → w'.heap[k]? = w.heap[k]?) : Tab T w' g most d F := by
  obtain ⟨mb, ov, h1, h2, h3, h4, h5, h6, h7⟩ := h
  exact ⟨mb, ov, (hb g h5 h1.lt).trans h1, h2.of_block (hb mb h6 h2.lt), h3.kept hs hb, h4, h5, h6, h7⟩
theorem Tab.below (h : Tab T w g most d F) (hB : Below w.heap.size w w') : Tab T w' g most d F := h.kept hB.size (fun k _ hk => hB.block k hk)
/-- Another's steps leave it. -/
theorem Tab.stay {G : Nat → Prop} (h : Tab T w g most d F) (hs : Stay G w w') (hd : ∀ k, F k → ¬ G k) : Tab T w' g most d F := h.kept hs.size (fun k hF hk => hs.block k hk (hd k hF))
end
/-- What the first piece holds. -/
theorem Ord.first {w : World} {F : Nat → Prop} {ov : Value} {ks : List Ky} (h : Ord w ov ks F) (hne : ks ≠ []) :
    ∃ ob oc pb pc, ov = .slice (some ⟨ob, 0, none⟩) 1 oc ∧ w.cell? ⟨ob, 0, none⟩ = some (.slice (some ⟨pb, 0, none⟩) ks.length pc) ∧ w.frozen? ⟨ob, 0, none⟩ = false ∧ OwnK w 0 (.slice (some ⟨pb, 0, none⟩) ks.length pc) ks ∧ ob < w.heap.size ∧ pb < w.heap.size ∧ F ob ∧ F pb ∧ ob ≠ pb := by
  rcases h with ⟨h, _⟩ | ⟨_, ob, oc, pb, pc, rfl, h1, h2, h3, h4⟩
  · exact absurd h hne
  · obtain ⟨cur, a1, a2, a3, a4, a5, a6, a7⟩ := row_of h1
    obtain ⟨cur2, b1, b2, b3, b4, b5, b6, b7⟩ := row_of h2
    have hc := World.ownsRow.cellAt h1 0 (by omega)
    have hf := World.ownsRow.frozenAt h1 0
    exact ⟨ob, oc, pb, pc, rfl, by simpa using hc, hf, h2, a1.lt, b1.lt, h3, h4, a1.ne b1 (by decide)⟩
end Go.Proofs.Ytolcidilnmjlmaa.Tbl
