/- Contracts of package table (layer 7): a key is lined up, whatever there was; a key leaves the line. -/
import Derived.Test.YtolcidilnmjlmaaTbnH
namespace Go.Proofs.Ytolcidilnmjlmaa.TblN
open Go.ChangeShapes Go.WideShapes Go.ChangeAt Go.RowKit Go.Sort
open Go.Proofs.Ytolcidilnmjlmaa.Key Go.Proofs.Ytolcidilnmjlmaa.Rw Go.Proofs.Ytolcidilnmjlmaa.Tbl
set_option linter.unusedVariables false
set_option linter.unusedSimpArgs false
/-- What a step on the line leaves that lays nothing new. -/
def LineStay (g : Nat) (mv rv : Value) (ks : List Ky) (F : Nat → Prop) (w : World) (e : Ending) (w' : World) : Prop :=
  e = .returned (.tuple #[]) ∧ ∃ ov', Blk w' g 79 #[mv, rv, ov'] ∧ Ord w' ov' ks F ∧ Stay F w w'
theorem enter_any (k : Ky) (g : Nat) (F : Nat → Prop) (mv rv ov : Value) (ks : List Ky) (w : World) (hl : ks.length ≤ 255) (hs : Str ks) (hB : Blk w g 79 #[mv, rv, ov]) (hO : Ord w ov ks F) (hF : F g) :
    Calls Try.prog 43 #[.pointer (some ⟨g, 0, none⟩), kval k] w (LinePost g mv rv (insP ks k) F w) := by
  by_cases hne : ks = []
  · subst hne
    rcases hO with ⟨-, a, c, rfl⟩ | ⟨h, -⟩
    · exact enter_first k g F mv rv a c w hB hF
    · exact absurd rfl h
  · exact enter_more k g F mv rv ov ks w hne hl hs hB hO hF
set_option maxRecDepth 100000 in
theorem leave_any (k : Ky) (g : Nat) (F : Nat → Prop) (mv rv ov : Value) (ks : List Ky) (w : World) (hk : k ∈ ks) (hl : ks.length ≤ 1000000) (hs : Str ks) (hB : Blk w g 79 #[mv, rv, ov]) (hO : Ord w ov ks F) (hF : F g) :
    Calls Try.prog 56 #[.pointer (some ⟨g, 0, none⟩), kval k] w (LineStay g mv rv (delP ks (pos ks k)) F w) := by
  have hne : ks ≠ [] := fun e => by rw [e] at hk; cases hk
  obtain ⟨w0, hw0⟩ : ∃ w0, Hid (w0 = w.alloc (.cells #[.int .i64 k.1, .int .i64 k.2.1, .int .u32 k.2.2] 34)) := ⟨_, Lib.hid rfl⟩
  have hX : Rw.At enc w0 w.heap.size 0 k := by rw [hw0.out]; exact Rw.At.box w k _ rfl
  have hG0 : Gr w w0 := by rw [hw0.out]; exact (Gr.refl w).alloc _
  have hB0 : Below w.heap.size w w0 := hG0.below
  have hsz : w.heap.size < w0.heap.size := by rw [hw0.out, World.size_alloc]; omega
  have h1 := hB.below hB0
  have hO0 := hO.kept hB0.size (fun j _ hj => hB0.block j hj)
  have CP := Lib.hid (place_any k g F mv rv ov ks w0 hne hl hs hO0 h1)
  rcases hO with ⟨hn, _⟩ | ⟨-, ob, oc, pb, pc, rfl, r1, r2, r3, r4⟩
  · exact absurd hn hne
  have q1 := row_of r1
  have q2 := row_of r2
  obtain ⟨cu1, b1, a2, a3, u1, u2, -, -⟩ := q1
  obtain ⟨cu2, b2, -, -, -, -, -, -⟩ := q2
  have hgo : g ≠ ob := hB.ne b1 (by decide)
  have hgp : g ≠ pb := hB.ne b2 (by decide)
  have hop : ob ≠ pb := b1.ne b2 (by decide)
  have hoblt : ob < w.heap.size := b1.lt
  have hplt := (pos_at hs hk).1
  obtain ⟨n, hn⟩ : ∃ n, Hid (ks.length = n) := ⟨_, Lib.hid rfl⟩
  have hoc : w.cell? ⟨ob, 0, none⟩ = some (.slice (some ⟨pb, 0, none⟩) ks.length pc) := by have := World.ownsRow.cellAt r1 0 (by omega); simpa using this
  have HI : Hid (∀ w1, Gr w0 w1 → Calls Try.prog 50 #[.slice (some ⟨pb, 0, none⟩) n pc, .int .i64 (pos ks k : Nat), .int .i64 (((pos ks k : Nat) : Int) + 1)] w1.drew fun e w' => e = .returned (.slice (some ⟨pb, 0, none⟩) (n - 1) pc) ∧ OwnK w' 0 (.slice (some ⟨pb, 0, none⟩) (n - 1) pc) (delP ks (pos ks k)) ∧ w1.drew.grownBy w' (some pb)) := Lib.hid (fun w1 hG => by
    have hb := ((hG0.trans hG).drew).below
    exact delete_any pb n pc (pos ks k) ks _ hn.out (by rw [← hn.out]; exact hplt) (by rw [← hn.out]; exact hl) (by rw [← hn.out]; exact r2.below hb))
  have HC : Hid (∀ w1 W, Gr w0 w1 → Below w1.heap.size w1 W ∨ w1.drew.grownBy W (some pb) → (W.cell? ⟨w.heap.size, 0, none⟩ = some (.int .i64 k.1) ∧ W.cell? ⟨w.heap.size, 1, none⟩ = some (.int .i64 k.2.1) ∧ W.cell? ⟨w.heap.size, 2, none⟩ = some (.int .u32 k.2.2)) ∧
      W.cell? ⟨g, 2, none⟩ = some (.slice (some ⟨ob, 0, none⟩) 1 oc) ∧ W.cell? ⟨ob, 0, none⟩ = some (.slice (some ⟨pb, 0, none⟩) n pc) ∧ W.frozen? ⟨ob, 0, none⟩ = false) := Lib.hid (fun w1 W hG hW => by
    have hBw := hG.below
    have h3 := at3 (hX.below hBw hsz)
    simp only [Nat.zero_add] at h3
    have hg1 := (h1.below hBw).cell 2
    have hbo := (b1.below hB0).below hBw
    have ho1 : w1.cell? ⟨ob, 0, none⟩ = some (.slice (some ⟨pb, 0, none⟩) n pc) := (hBw.cell (p := ⟨ob, 0, none⟩) (by have := b1.lt; show ob < _; omega)).trans ((hB0.cell (p := ⟨ob, 0, none⟩) b1.lt).trans (by rw [← hn.out]; exact hoc))
    have hs1 := hBw.size
    have l1 := b1.lt
    have l2 := hB.lt
    have key : ∀ b i u, b < w1.heap.size → b ≠ pb → w1.cell? ⟨b, i, none⟩ = some u → W.cell? ⟨b, i, none⟩ = some u := fun b i u hb hbp hc => by
      rcases hW with hW | hW
      · exact (hW.cell (p := ⟨b, i, none⟩) hb).trans hc
      · exact hW.cell hc (by simpa using hbp)
    have hfr : W.frozen? ⟨ob, 0, none⟩ = false := by
      have hbW : Blk W ob 39 cu1 := by
        rcases hW with hW | hW
        · exact hbo.below hW
        · exact Blk.grown (w := w1.drew) hbo hW (by simpa using hop)
      exact hbW.free 0
    have l3 := b2.lt
    exact ⟨⟨key _ _ _ (by omega) (by omega) h3.1, key _ _ _ (by omega) (by omega) h3.2.1, key _ _ _ (by omega) (by omega) h3.2.2⟩, key _ _ _ (by omega) hgp hg1, key _ _ _ (by omega) hop ho1, hfr⟩)
  -- the row of pieces behind the store
  have HP : Hid (∀ w1 w7, Gr w0 w1 → OwnK w7 0 (.slice (some ⟨pb, 0, none⟩) (n - 1) pc) (delP ks (pos ks k)) → w1.drew.grownBy w7 (some pb) →
      (Blk (w7.setCell ⟨ob, 0, none⟩ (.slice (some ⟨pb, 0, none⟩) (n - 1) pc)) g 79 #[mv, rv, .slice (some ⟨ob, 0, none⟩) 1 oc] ∧ Stay F w (w7.setCell ⟨ob, 0, none⟩ (.slice (some ⟨pb, 0, none⟩) (n - 1) pc)) ∧
        (w7.setCell ⟨ob, 0, none⟩ (.slice (some ⟨pb, 0, none⟩) (n - 1) pc)).ownsRow 0 39 1 (.slice (some ⟨ob, 0, none⟩) 1 oc) 1 [.slice (some ⟨pb, 0, none⟩) (n - 1) pc] ∧ OwnK (w7.setCell ⟨ob, 0, none⟩ (.slice (some ⟨pb, 0, none⟩) (n - 1) pc)) 0 (.slice (some ⟨pb, 0, none⟩) (n - 1) pc) (delP ks (pos ks k)))) := Lib.hid (fun w1 w7 hG h7 hg7 => by
    have hb := ((hG0.trans hG).drew).below
    have bg7 := (hB.below hb).grown hg7 (by simpa using hgp)
    have bo7 := (b1.below hb).grown hg7 (by simpa using hop)
    have bg8 := bg7.far (p := ⟨ob, 0, none⟩) hgo (.slice (some ⟨pb, 0, none⟩) (n - 1) pc)
    have bo8 := bo7.put 0 (.slice (some ⟨pb, 0, none⟩) (n - 1) pc)
    have ho0 : 0 < cu1.size := by omega
    refine ⟨bg8, ?_, ?_, ?_⟩
    · have st1 : Stay F w w7 := (Stay.of_below (F := F) hb).snoc (Stay.of_grown (F := fun j => j = pb) hg7 (fun j e => by simpa using e.symm)) (fun j _ e => by rw [e]; exact r4)
      exact st1.snoc (Stay.of_grown (F := fun j => j = ob) (setCell_grown w7 ob 0 _) (fun j e => by simpa using e.symm)) (fun j _ e => by rw [e]; exact r3)
    · exact of_row (n := 1) bo8 (Nat.zero_le _) a2 a3 (by simpa using u1) (by rw [Array.toList_setIfInBounds, Nat.one_mul]; cases hc : cu1.toList with | nil => rw [← Array.length_toList, hc] at ho0; simp at ho0 | cons a r => simp)
    · unfold OwnK OwnS at h7 ⊢
      exact World.ownsRow.kept h7 (setCell_grown w7 ob 0 _) (.inr (by simpa [Value.ownBlock] using fun e => hop e.symm)))
  have hlen : (delP ks (pos ks k)).length = n - 1 := by rw [delP_len hplt, hn.out]
  have hw1 : IntKind.i64.wrap (((pos ks k : Nat) : Int) + 1) = ((pos ks k : Nat) : Int) + 1 := by rw [IntKind.wrap_i64]; omega
  have hpn : pos ks k < n := by rw [← hn.out]; exact hplt
  have hLF : 0 < n := by omega
  have hnm : n ≤ 1000000 := by rw [← hn.out]; exact hl
  clear hO0 h1 hX r1 r2 b1 b2 hoc hB hB0 hG0 hs hl hne hn hk hplt u1 u2 a2 a3
  generalize delP ks (pos ks k) = ks' at *
  generalize pos ks k = i at *
  obtain ⟨p, q, s⟩ := k
  unfold kval at *
  simp only at CP HI HC HP hw0
  obtain ⟨⟨d0, d1, d2⟩, c2, c3, f3⟩ := HC.out w0 w0 (Gr.refl _) (.inl (Below.refl _ _))
  go_enter Try.func56, Try.ntmps56
  go_upto_region 1 with fail
  rw [← hw0.out]
  go_wp2_with fail
  refine (CP.out).mono ?_; rintro e w1 ⟨rfl, hG1⟩
  clear d0 d1 d2 c2 c3 f3
  obtain ⟨⟨d0, d1, d2⟩, c2, c3, f3⟩ := HC.out w1 w1 hG1 (.inl (Below.refl _ _))
  have HG1 := Lib.hid hG1
  clear hG1
  go_wp2_with fail
  refine RegZ.start (S := fun W => (W.cell? ⟨w.heap.size, 0, none⟩ = some (.int .i64 p) ∧ W.cell? ⟨w.heap.size, 1, none⟩ = some (.int .i64 q) ∧ W.cell? ⟨w.heap.size, 2, none⟩ = some (.int .u32 s)) ∧
      W.cell? ⟨g, 2, none⟩ = some (.slice (some ⟨ob, 0, none⟩) 1 oc) ∧ W.cell? ⟨ob, 0, none⟩ = some (.slice (some ⟨pb, 0, none⟩) n pc) ∧ W.frozen? ⟨ob, 0, none⟩ = false) (z := 17) (by kernel_rfl) ?_
  have hS0 := HC.out w1 w1.drew HG1.out (.inl (Below.refl _ _).drew)
  refine RegZ.AnyZ.take (i := 0) (v := ?_) rfl (by decide) (by kernel_rfl) (by kernel_rfl) (by kernel_rfl) (by kernel_rfl) (fun _ _ _ h => h) (Or.inl ⟨by rfl, ?_⟩) (by assumption) ?_
  rotate_left
  · intro W hSw; obtain ⟨⟨d0, d1, d2⟩, c2, c3, f3⟩ := hSw; go_simp; try with_reducible rfl
  try simp only [Act.put, List.setIfInBounds_toArray, List.set_cons_zero, List.set_cons_succ]
  refine RegZ.AnyZ.take (i := 1) (v := ?_) rfl (by decide) (by kernel_rfl) (by kernel_rfl) (by kernel_rfl) (by kernel_rfl) (fun _ _ _ h => h) (Or.inl ⟨by rfl, ?_⟩) (by assumption) ?_
  rotate_left
  · intro W hSw; obtain ⟨⟨d0, d1, d2⟩, c2, c3, f3⟩ := hSw; go_simp; try with_reducible rfl
  try simp only [Act.put, List.setIfInBounds_toArray, List.set_cons_zero, List.set_cons_succ]
  refine RegZ.AnyZ.take (i := 2) (v := ?_) rfl (by decide) (by kernel_rfl) (by kernel_rfl) (by kernel_rfl) (by kernel_rfl) (fun _ _ _ h => h) (Or.inl ⟨by rfl, ?_⟩) (by assumption) ?_
  rotate_left
  · intro W hSw; obtain ⟨⟨d0, d1, d2⟩, c2, c3, f3⟩ := hSw; go_simp; try with_reducible rfl
  try simp only [Act.put, List.setIfInBounds_toArray, List.set_cons_zero, List.set_cons_succ]
  refine RegZ.AnyZ.take (i := 3) (v := ?_) rfl (by decide) (by kernel_rfl) (by kernel_rfl) (by kernel_rfl) (by kernel_rfl) (fun _ _ _ h => h) (Or.inl ⟨by rfl, ?_⟩) (by assumption) ?_
  rotate_left
  · intro W hSw; obtain ⟨⟨d0, d1, d2⟩, c2, c3, f3⟩ := hSw; go_simp; try with_reducible rfl
  try simp only [Act.put, List.setIfInBounds_toArray, List.set_cons_zero, List.set_cons_succ]
  refine RegZ.AnyZ.take (i := 4) (v := ?_) rfl (by decide) (by kernel_rfl) (by kernel_rfl) (by kernel_rfl) (by kernel_rfl) (fun _ _ _ h => h) (Or.inl ⟨by rfl, ?_⟩) (by assumption) ?_
  rotate_left
  · intro W hSw; obtain ⟨⟨d0, d1, d2⟩, c2, c3, f3⟩ := hSw; go_simp; try with_reducible rfl
  try simp only [Act.put, List.setIfInBounds_toArray, List.set_cons_zero, List.set_cons_succ]
  refine RegZ.AnyZ.take (i := 5) (v := ?_) rfl (by decide) (by kernel_rfl) (by kernel_rfl) (by kernel_rfl) (by kernel_rfl) (fun _ _ _ h => h) (Or.inl ⟨by rfl, ?_⟩) (by assumption) ?_
  rotate_left
  · intro W hSw; obtain ⟨⟨d0, d1, d2⟩, c2, c3, f3⟩ := hSw; go_simp; try with_reducible rfl
  try simp only [Act.put, List.setIfInBounds_toArray, List.set_cons_zero, List.set_cons_succ]
  refine RegZ.AnyZ.take (i := 6) (v := ?_) rfl (by decide) (by kernel_rfl) (by kernel_rfl) (by kernel_rfl) (by kernel_rfl) (fun _ _ _ h => h) (Or.inl ⟨by rfl, ?_⟩) (by assumption) ?_
  rotate_left
  · intro W hSw; obtain ⟨⟨d0, d1, d2⟩, c2, c3, f3⟩ := hSw; go_simp; try with_reducible rfl
  try simp only [Act.put, List.setIfInBounds_toArray, List.set_cons_zero, List.set_cons_succ]
  refine RegZ.AnyZ.take (i := 7) (v := ?_) rfl (by decide) (by kernel_rfl) (by kernel_rfl) (by kernel_rfl) (by kernel_rfl) (fun _ _ _ h => h) (Or.inl ⟨by rfl, ?_⟩) (by assumption) ?_
  rotate_left
  · intro W hSw; obtain ⟨⟨d0, d1, d2⟩, c2, c3, f3⟩ := hSw; go_simp; try with_reducible rfl
  try simp only [Act.put, List.setIfInBounds_toArray, List.set_cons_zero, List.set_cons_succ]
  refine RegZ.AnyZ.take (i := 8) (v := ?_) rfl (by decide) (by kernel_rfl) (by kernel_rfl) (by kernel_rfl) (by kernel_rfl) (fun _ _ _ h => h) (Or.inl ⟨by rfl, ?_⟩) (by assumption) ?_
  rotate_left
  · intro W hSw; obtain ⟨⟨d0, d1, d2⟩, c2, c3, f3⟩ := hSw; go_simp; try with_reducible rfl
  try simp only [Act.put, List.setIfInBounds_toArray, List.set_cons_zero, List.set_cons_succ]
  refine RegZ.AnyZ.take (i := 9) (v := ?_) rfl (by decide) (by kernel_rfl) (by kernel_rfl) (by kernel_rfl) (by kernel_rfl) (fun _ _ _ h => h) (Or.inl ⟨by rfl, ?_⟩) (by assumption) ?_
  rotate_left
  · intro W hSw; obtain ⟨⟨d0, d1, d2⟩, c2, c3, f3⟩ := hSw; go_simp; try with_reducible rfl
  try simp only [Act.put, List.setIfInBounds_toArray, List.set_cons_zero, List.set_cons_succ]
  refine RegZ.AnyZ.take (i := 10) (v := ?_) rfl (by decide) (by kernel_rfl) (by kernel_rfl) (by kernel_rfl) (by kernel_rfl) (fun _ _ _ h => h) (Or.inl ⟨by rfl, ?_⟩) (by assumption) ?_
  rotate_left
  · intro W hSw; obtain ⟨⟨d0, d1, d2⟩, c2, c3, f3⟩ := hSw; go_simp; try with_reducible rfl
  try simp only [Act.put, List.setIfInBounds_toArray, List.set_cons_zero, List.set_cons_succ]
  refine RegZ.AnyZ.take (i := 11) (v := ?_) rfl (by decide) (by kernel_rfl) (by kernel_rfl) (by kernel_rfl) (by kernel_rfl) (fun _ _ _ h => h) (Or.inl ⟨by rfl, ?_⟩) (by assumption) ?_
  rotate_left
  · intro W hSw; obtain ⟨⟨d0, d1, d2⟩, c2, c3, f3⟩ := hSw; go_simp; try with_reducible rfl
  try simp only [Act.put, List.setIfInBounds_toArray, List.set_cons_zero, List.set_cons_succ]
  refine RegZ.AnyZ.take (i := 12) (v := ?_) rfl (by decide) (by kernel_rfl) (by kernel_rfl) (by kernel_rfl) (by kernel_rfl) (fun _ _ _ h => h) (Or.inl ⟨by rfl, ?_⟩) (by assumption) ?_
  rotate_left
  · intro W hSw; obtain ⟨⟨d0, d1, d2⟩, c2, c3, f3⟩ := hSw; go_simp; try with_reducible rfl
  try simp only [Act.put, List.setIfInBounds_toArray, List.set_cons_zero, List.set_cons_succ]
  refine RegZ.AnyZ.take (i := 13) (v := ?_) rfl (by decide) (by kernel_rfl) (by kernel_rfl) (by kernel_rfl) (by kernel_rfl) (fun _ _ _ h => h) (Or.inl ⟨by rfl, ?_⟩) (by assumption) ?_
  rotate_left
  · intro W hSw; obtain ⟨⟨d0, d1, d2⟩, c2, c3, f3⟩ := hSw; go_simp; try with_reducible rfl
  try simp only [Act.put, List.setIfInBounds_toArray, List.set_cons_zero, List.set_cons_succ]
  refine RegZ.AnyZ.take (i := 14) (v := ?_) rfl (by decide) (by kernel_rfl) (by kernel_rfl) (by kernel_rfl) (by kernel_rfl) (fun _ _ _ h => h) (Or.inl ⟨by rfl, ?_⟩) (by assumption) ?_
  rotate_left
  · intro W hSw; obtain ⟨⟨d0, d1, d2⟩, c2, c3, f3⟩ := hSw; go_simp; try with_reducible rfl
  try simp only [Act.put, List.setIfInBounds_toArray, List.set_cons_zero, List.set_cons_succ]
  refine RegZ.AnyZ.one (i := 15) (by kernel_rfl) rfl (fun K hK => ?_)
  go_simp
  go_wp2_with (go_at_call 50; refine (HI.out w1 HG1.out).mono ?_; rintro e w7 ⟨rfl, h7, hg7⟩)
  refine hK.out _ _ (HC.out w1 _ HG1.out (.inr hg7)) (fun hS1 => ?_)
  clear hK K
  refine RegZ.AnyZ.take (i := 16) (v := ?_) rfl (by decide) (by kernel_rfl) (by kernel_rfl) (by kernel_rfl) (by kernel_rfl) (fun _ _ _ h => h) (Or.inl ⟨by rfl, ?_⟩) (by assumption) ?_
  rotate_left
  · intro W hSw; obtain ⟨⟨d0, d1, d2⟩, c2, c3, f3⟩ := hSw; go_simp; try with_reducible rfl
  try simp only [Act.put, List.setIfInBounds_toArray, List.set_cons_zero, List.set_cons_succ]
  obtain ⟨-, c7, c8, f8⟩ := hS1
  refine RegZ.AnyZ.last (z := 17) (by kernel_rfl) rfl (by kernel_rfl) (fun K hK => ?_)
  go_simp
  refine hK.out _ _ ?_
  clear hK K
  obtain ⟨hp1, hp2, hp3, hp4⟩ := HP.out w1 w7 HG1.out h7 hg7
  have e2 := hp1.cell 2
  have e3 : (w7.setCell ⟨ob, 0, none⟩ (.slice (some ⟨pb, 0, none⟩) (n - 1) pc)).cell? ⟨ob, 0, none⟩ = some (.slice (some ⟨pb, 0, none⟩) (n - 1) pc) := by have := World.ownsRow.cellAt hp3 0 (by omega); simpa using this
  have e4 := hp1.free 2
  simp at e2
  have hplt2 := hp4.pos.2.2.1
  clear c2 c3 f3 d0 d1 d2 c7 c8 f8 hS0 h7 hg7 HP HC HI CP
  generalize (w7.setCell ⟨ob, 0, none⟩ (.slice (some ⟨pb, 0, none⟩) (n - 1) pc)) = w8 at *
  have HP1 := Lib.hid hp1
  have HP2 := Lib.hid hp2
  have HP3 := Lib.hid hp3
  have HP4 := Lib.hid hp4
  clear hp1 hp2 hp3 hp4
  by_cases hn1 : n = 1
  · subst hn1
    have CD := Lib.hid (delpiece_any ob oc _ w8 HP3.out)
    have HQ : Hid (∀ w9, w8.grownBy w9 (some ob) → (w9.cell? ⟨g, 2, none⟩ = some (.slice (some ⟨ob, 0, none⟩) 1 oc) ∧ w9.frozen? ⟨g, 2, none⟩ = false) ∧ LineStay g mv rv ks' F w (.returned (.tuple #[])) (w9.setCell ⟨g, 2, none⟩ (.slice (some ⟨ob, 0, none⟩) 0 oc))) := Lib.hid (fun w9 hg9 => by
      have b9 := HP1.out.grown hg9 (by simpa using hgo)
      refine ⟨⟨by rw [b9.cell 2]; rfl, b9.free 2⟩, rfl, _, b9.put 2 _, .inl ⟨List.eq_nil_of_length_eq_zero hlen, _, _, rfl⟩, ?_⟩
      have st := HP2.out.snoc (Stay.of_grown (F := fun j => j = ob) hg9 (fun j e => by simpa using e.symm)) (fun j _ e => by rw [e]; exact r3)
      exact st.snoc (Stay.of_grown (F := fun j => j = g) (setCell_grown w9 g 2 _) (fun j e => by simpa using e.symm)) (fun j _ e => by rw [e]; exact hF))
    clear HP1 HP2 HP3 HP4
    go_wp2_with fail
    refine (CD.out).mono ?_; rintro e w9 ⟨rfl, hg9⟩
    obtain ⟨⟨e6, e7⟩, hp⟩ := HQ.out w9 hg9
    have HPP := Lib.hid hp
    clear hp hg9 HQ
    go_wp2_with fail
    go_end0
    exact HPP.out
  · have HPP : Hid (LineStay g mv rv ks' F w (.returned (.tuple #[])) w8) := Lib.hid (by
      refine ⟨rfl, _, HP1.out, .inr ⟨fun e => ?_, ob, oc, pb, pc, rfl, by rw [hlen]; exact HP3.out, by rw [hlen]; exact HP4.out, r3, r4⟩, HP2.out⟩
      rw [e] at hlen
      simp at hlen
      omega)
    have hnz : (((n - 1 : Nat) : Int) == 0) = false := by simp; omega
    have hnz2 : ¬ (n - 1 = 0) := by omega
    clear HP1 HP2 HP3 HP4
    go_wp2_with fail
    go_end0
    exact HPP.out
end Go.Proofs.Ytolcidilnmjlmaa.TblN
