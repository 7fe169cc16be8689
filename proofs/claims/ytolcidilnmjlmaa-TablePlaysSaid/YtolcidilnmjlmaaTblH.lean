/- Contracts of package table (layer 7): a key is lined up, a key leaves the line. -/
import Derived.Test.YtolcidilnmjlmaaTblG
import Derived.Test.YtolcidilnmjlmaaRegZ
namespace Go.Proofs.Ytolcidilnmjlmaa.TblL
open Go.ChangeShapes Go.WideShapes Go.ChangeAt Go.RowKit Go.Sort
open Go.Proofs.Ytolcidilnmjlmaa.Key Go.Proofs.Ytolcidilnmjlmaa.Rw Go.Proofs.Ytolcidilnmjlmaa.Tbl
set_option linter.unusedVariables false
set_option linter.unusedSimpArgs false
/-- What a step on the line leaves. -/
def LinePost (g : Nat) (mv rv : Value) (ks : List Ky) (F : Nat → Prop) (w : World) (e : Ending) (w' : World) : Prop :=
  e = .returned (.tuple #[]) ∧ ∃ ov', Blk w' g 61 #[mv, rv, ov'] ∧ Ord w' ov' ks (Ext F w w') ∧ Stay F w w'
theorem enter_first (k : Ky) (g : Nat) (F : Nat → Prop) (mv rv : Value) (a : Option Addr) (c : Nat) (w : World) (hB : Blk w g 61 #[mv, rv, .slice a 0 c]) (hF : F g) :
    Calls Try.prog 34 #[.pointer (some ⟨g, 0, none⟩), kval k] w (LinePost g mv rv [k] F w) := by
  obtain ⟨w0, hw0⟩ : ∃ w0, Hid (w0 = w.alloc (.cells #[.int .i64 k.1, .int .i64 k.2.1, .int .u32 k.2.2] 34)) := ⟨_, Lib.hid rfl⟩
  have hX : Rw.At enc w0 w.heap.size 0 k := by rw [hw0.out]; exact Rw.At.box w k _ rfl
  have hB0 : Below w.heap.size w w0 := by rw [hw0.out]; exact box_below _ _
  have hsz : w0.heap.size = w.heap.size + 1 := by rw [hw0.out, World.size_alloc]
  have h1 := hB.below hB0
  have c2 : w0.cell? ⟨g, 2, none⟩ = some (.slice a 0 c) := h1.cell 2
  have f2 : w0.frozen? ⟨g, 2, none⟩ = false := h1.free 2
  obtain ⟨d0, d1, d2⟩ := at3 hX
  simp only [Nat.zero_add] at d0 d1 d2
  have HP : Hid (LinePost g mv rv [k] F w (.returned (.tuple #[])) (((w0.alloc (.cells #[.int .i64 k.1, .int .i64 k.2.1, .int .u32 k.2.2] 34)).alloc (.cells #[.slice (some ⟨w0.heap.size, 0, none⟩) 1 1] 39)).setCell ⟨g, 2, none⟩ (.slice (some ⟨w0.heap.size + 1, 0, none⟩) 1 1))) := Lib.hid (by
    have b1 := ((Blk.new w0 34 #[.int .i64 k.1, .int .i64 k.2.1, .int .u32 k.2.2]).alloc (.cells #[.slice (some ⟨w0.heap.size, 0, none⟩) 1 1] 39)).far (p := ⟨g, 2, none⟩) (by have := h1.lt; show w0.heap.size ≠ g; omega) (.slice (some ⟨w0.heap.size + 1, 0, none⟩) 1 1)
    have b2 := (Blk.new (w0.alloc (.cells #[.int .i64 k.1, .int .i64 k.2.1, .int .u32 k.2.2] 34)) 39 #[.slice (some ⟨w0.heap.size, 0, none⟩) 1 1]).far (p := ⟨g, 2, none⟩) (by have := h1.lt; rw [World.size_alloc]; show w0.heap.size + 1 ≠ g; omega) (.slice (some ⟨w0.heap.size + 1, 0, none⟩) 1 1)
    rw [World.size_alloc] at b2
    have b3 := ((h1.alloc (.cells #[.int .i64 k.1, .int .i64 k.2.1, .int .u32 k.2.2] 34)).alloc (.cells #[.slice (some ⟨w0.heap.size, 0, none⟩) 1 1] 39)).put 2 (.slice (some ⟨w0.heap.size + 1, 0, none⟩) 1 1)
    refine ⟨rfl, _, b3, .inr ⟨by simp, w0.heap.size + 1, 1, w0.heap.size, 1, rfl, ?_, ?_, .inr ⟨by omega, ?_⟩, .inr ⟨by omega, ?_⟩⟩, ?_⟩
    · exact of_row (n := 1) b2 (Nat.zero_le _) (Nat.le_refl _) (by unfold maxLen; omega) rfl rfl
    · exact of_row (n := 1) (xs := [k].flatMap enc) b1 (Nat.zero_le _) (Nat.le_refl _) (by unfold maxLen; omega) rfl (by simp [enc])
    · show _ < (World.setCell _ _ _).heap.size
      simp [World.setCell]
    · show _ < (World.setCell _ _ _).heap.size
      simp [World.setCell]; omega
    · have hb2 : Below w.heap.size w ((w0.alloc (.cells #[.int .i64 k.1, .int .i64 k.2.1, .int .u32 k.2.2] 34)).alloc (.cells #[.slice (some ⟨w0.heap.size, 0, none⟩) 1 1] 39)) := (hB0.alloc (by omega) _).alloc (by simp; omega) _
      refine (Stay.of_below (F := F) hb2).snoc (Stay.of_grown (setCell_grown _ g _ _) (F := fun j => j = g) (by intro j e; simpa using e.symm)) (fun j _ e => by rw [e]; exact hF))
  have h3 := (h1.alloc (.cells #[.int .i64 k.1, .int .i64 k.2.1, .int .u32 k.2.2] 34)).alloc (.cells #[.slice (some ⟨w0.heap.size, 0, none⟩) 1 1] 39)
  have c4 := h3.cell 2
  have f4 := h3.free 2
  clear h1 hX hB hB0 h3 hsz
  obtain ⟨p, q, s⟩ := k
  unfold kval
  simp at HP d0 d1 d2 hw0 c4 f4
  go_enter Try.func34, Try.ntmps34
  go_upto_region 1 with fail
  rw [← hw0.out]
  go_wp2_with fail
  go_end0
  exact HP.out
set_option maxRecDepth 100000 in
theorem enter_more (k : Ky) (g : Nat) (F : Nat → Prop) (mv rv ov : Value) (ks : List Ky) (w : World) (hne : ks ≠ []) (hl : ks.length ≤ 255) (hs : Str ks) (hB : Blk w g 61 #[mv, rv, ov]) (hO : Ord w ov ks F) (hF : F g) :
    Calls Try.prog 34 #[.pointer (some ⟨g, 0, none⟩), kval k] w (LinePost g mv rv (insP ks k) F w) := by
  obtain ⟨w0, hw0⟩ : ∃ w0, Hid (w0 = w.alloc (.cells #[.int .i64 k.1, .int .i64 k.2.1, .int .u32 k.2.2] 34)) := ⟨_, Lib.hid rfl⟩
  have hX : Rw.At enc w0 w.heap.size 0 k := by rw [hw0.out]; exact Rw.At.box w k _ rfl
  have hG0 : Gr w w0 := by rw [hw0.out]; exact (Gr.refl w).alloc _
  have hB0 : Below w.heap.size w w0 := hG0.below
  have hsz : w.heap.size < w0.heap.size := by rw [hw0.out, World.size_alloc]; omega
  have h1 := hB.below hB0
  have hO0 := hO.kept hB0.size (fun j _ hj => hB0.block j hj)
  have CP := Lib.hid (place_any k g F mv rv ov ks w0 hne (by omega) hs hO0 h1)
  rcases hO with ⟨hn, _⟩ | ⟨-, ob, oc, pb, pc, rfl, r1, r2, r3, r4⟩
  · exact absurd hn hne
  have q1 := row_of r1
  have q2 := row_of r2
  obtain ⟨cu1, b1, -, -, u1, u2, -, -⟩ := q1
  obtain ⟨cu2, b2, -, -, -, -, -, -⟩ := q2
  have hgo : g ≠ ob := hB.ne b1 (by decide)
  have hgp : g ≠ pb := hB.ne b2 (by decide)
  have hop : ob ≠ pb := b1.ne b2 (by decide)
  have hoblt : ob < w.heap.size := b1.lt
  have hpl := pos_le ks k
  obtain ⟨n, hn⟩ : ∃ n, Hid (ks.length = n) := ⟨_, Lib.hid rfl⟩
  have hoc : w.cell? ⟨ob, 0, none⟩ = some (.slice (some ⟨pb, 0, none⟩) ks.length pc) := by have := World.ownsRow.cellAt r1 0 (by omega); simpa using this
  have hof := World.ownsRow.frozenAt r1 0
  -- the call, from whatever world that grew
  have HI : Hid (∀ w1, Gr w0 w1 → Calls Try.prog 47 #[.slice (some ⟨pb, 0, none⟩) n pc, .int .i64 (pos ks k : Nat), .slice (some ⟨w1.heap.size, 0, none⟩) 1 1] ((w1.alloc (.cells #[.int .i64 k.1, .int .i64 k.2.1, .int .u32 k.2.2] 34)).drew) (InsPost pb n (insP ks k) ((w1.alloc (.cells #[.int .i64 k.1, .int .i64 k.2.1, .int .u32 k.2.2] 34)).drew))) := Lib.hid (fun w1 hG => by
    have hBw := (hG0.trans hG).below
    have hb : Below w.heap.size w ((w1.alloc (.cells #[.int .i64 k.1, .int .i64 k.2.1, .int .u32 k.2.2] 34)).drew) := (hBw.alloc hBw.size _).drew
    exact insert_any pb n pc (pos ks k) ks k _ hn.out (by rw [← hn.out]; exact hpl) (by rw [← hn.out]; omega) (by rw [← hn.out]; exact r2.below hb) w1.heap.size (Blk.new w1 _ _) (by have := hBw.size; have := b2.lt; omega))
  have HC : Hid (∀ w1 W, Gr w0 w1 → Below w1.heap.size w1 W ∨ ((w1.alloc (.cells #[.int .i64 k.1, .int .i64 k.2.1, .int .u32 k.2.2] 34)).drew).grownBy W (some pb) → (W.cell? ⟨w.heap.size, 0, none⟩ = some (.int .i64 k.1) ∧ W.cell? ⟨w.heap.size, 1, none⟩ = some (.int .i64 k.2.1) ∧ W.cell? ⟨w.heap.size, 2, none⟩ = some (.int .u32 k.2.2)) ∧
      W.cell? ⟨g, 2, none⟩ = some (.slice (some ⟨ob, 0, none⟩) 1 oc) ∧ W.cell? ⟨ob, 0, none⟩ = some (.slice (some ⟨pb, 0, none⟩) n pc) ∧ W.frozen? ⟨ob, 0, none⟩ = false) := Lib.hid (fun w1 W hG hW => by
    have hBw := hG.below
    have h3 := at3 (hX.below hBw hsz)
    simp only [Nat.zero_add] at h3
    have hg1 := (h1.below hBw).cell 2
    have hbo := (b1.below hB0).below hBw
    have ho1 : w1.cell? ⟨ob, 0, none⟩ = some (.slice (some ⟨pb, 0, none⟩) n pc) := (hBw.cell (p := ⟨ob, 0, none⟩) (by have := b1.lt; show ob < _; omega)).trans ((hB0.cell (p := ⟨ob, 0, none⟩) b1.lt).trans (by rw [← hn.out]; exact hoc))
    have hs1 := hBw.size
    have l1 := b1.lt
    have l2 := hB.lt
    have key : ∀ b i u, b < w1.heap.size → b ≠ pb → w1.cell? ⟨b, i, none⟩ = some u → W.cell? ⟨b, i, none⟩ = some u := fun b i u hb hbp hc => by
      rcases hW with hW | hW
      · exact (hW.cell (p := ⟨b, i, none⟩) hb).trans hc
      · exact hW.cell (by rw [← hc]; exact (((Below.refl w1.heap.size w1).alloc (Nat.le_refl _) _).drew.cell (p := ⟨b, i, none⟩) hb)) (by simpa using hbp)
    have hfr : W.frozen? ⟨ob, 0, none⟩ = false := by
      have hbW : Blk W ob 39 cu1 := by
        rcases hW with hW | hW
        · exact hbo.below hW
        · exact (hbo.below ((Below.refl w1.heap.size w1).alloc (Nat.le_refl _) _).drew).grown hW (by simpa using hop)
      exact hbW.free 0
    have l3 := b2.lt
    exact ⟨⟨key _ _ _ (by omega) (by omega) h3.1, key _ _ _ (by omega) (by omega) h3.2.1, key _ _ _ (by omega) (by omega) h3.2.2⟩, key _ _ _ (by omega) hgp hg1, key _ _ _ (by omega) hop ho1, hfr⟩)
  have HP : Hid (∀ w1 w7 g' cap', Gr w0 w1 → OwnK w7 0 (.slice (some ⟨g', 0, none⟩) (n + 1) cap') (insP ks k) → ((w1.alloc (.cells #[.int .i64 k.1, .int .i64 k.2.1, .int .u32 k.2.2] 34)).drew).grownBy w7 (some pb) → (g' = pb ∨ ((w1.alloc (.cells #[.int .i64 k.1, .int .i64 k.2.1, .int .u32 k.2.2] 34)).drew).heap.size ≤ g') →
      LinePost g mv rv (insP ks k) F w (.returned (.tuple #[])) (w7.setCell ⟨ob, 0, none⟩ (.slice (some ⟨g', 0, none⟩) (n + 1) cap')) ∧ (w7.setCell ⟨ob, 0, none⟩ (.slice (some ⟨g', 0, none⟩) (n + 1) cap')).cell? ⟨g, 2, none⟩ = some (.slice (some ⟨ob, 0, none⟩) 1 oc) ∧ (w7.setCell ⟨ob, 0, none⟩ (.slice (some ⟨g', 0, none⟩) (n + 1) cap')).cell? ⟨ob, 0, none⟩ = some (.slice (some ⟨g', 0, none⟩) (n + 1) cap')) := Lib.hid (fun w1 w7 g' cap' hG h7 hg7 hgn => by
    have hBw := (hG0.trans hG).below
    have hb : Below w.heap.size w ((w1.alloc (.cells #[.int .i64 k.1, .int .i64 k.2.1, .int .u32 k.2.2] 34)).drew) := (hBw.alloc hBw.size _).drew
    have hs1 := hb.size
    have bg7 := (hB.below hb).grown hg7 (by simpa using hgp)
    have bo7 := (b1.below hb).grown hg7 (by simpa using hop)
    have hlen : (insP ks k).length = n + 1 := by rw [insP_len, hn.out]
    have h7' : w7.ownsRow 0 34 3 (.slice (some ⟨g', 0, none⟩) (n + 1) cap') (n + 1) ((insP ks k).flatMap enc) := by
      have h := h7
      unfold OwnK OwnS at h
      rw [hlen] at h
      exact h
    obtain ⟨cu3, b3, -⟩ := row_of h7'
    have hog : ob ≠ g' := bo7.ne b3 (by decide)
    have bg8 := bg7.far (p := ⟨ob, 0, none⟩) hgo (.slice (some ⟨g', 0, none⟩) (n + 1) cap')
    have bo8 := bo7.put 0 (.slice (some ⟨g', 0, none⟩) (n + 1) cap')
    have hs7 := hg7.size
    have hs8 : (w7.setCell ⟨ob, 0, none⟩ (.slice (some ⟨g', 0, none⟩) (n + 1) cap')).heap.size = w7.heap.size := by simp [World.setCell]
    obtain ⟨cur, a1, a2, a3, a4, a5, a6, -⟩ := row_of r1
    have hcur : cur = cu1 := by
      have := a1.symm.trans b1
      injection this with this
      injection this
    subst hcur
    have ho0 : 0 < cur.size := by omega
    refine ⟨⟨rfl, _, bg8, .inr ⟨insP_ne ks k, ob, oc, g', cap', rfl, ?_, ?_, .inl r3, ?_⟩, ?_⟩, bg8.cell 2, ?_⟩
    · rw [hlen]
      exact of_row (n := 1) bo8 (Nat.zero_le _) a2 a3 (by simpa using a4) (by rw [Array.toList_setIfInBounds, Nat.one_mul]; cases hc : cur.toList with | nil => rw [← Array.length_toList, hc] at ho0; simp at ho0 | cons a r => simp)
    · rw [hlen]
      unfold OwnK OwnS at h7 ⊢
      exact World.ownsRow.kept h7 (setCell_grown w7 ob 0 _) (.inr (by simpa [Value.ownBlock] using fun e => hog e.symm))
    · rcases hgn with rfl | hgn
      · exact .inl r4
      · exact .inr ⟨by omega, by rw [hs8]; exact b3.lt⟩
    · have st1 : Stay F w w7 := (Stay.of_below (F := F) hb).snoc (Stay.of_grown (F := fun j => j = pb) hg7 (fun j e => by simpa using e.symm)) (fun j _ e => by rw [e]; exact r4)
      exact st1.snoc (Stay.of_grown (F := fun j => j = ob) (setCell_grown w7 ob 0 _) (fun j e => by simpa using e.symm)) (fun j _ e => by rw [e]; exact r3)
    · rw [bo8.cell 0]; simp [ho0])
  have hn1 : (((n : Int) + 1 : Int) ≤ 256) := by have := hn.out; omega
  have hn2 : ¬ ((256 : Int) < ((n : Int) + 1 : Int)) := by omega
  have hw1 : IntKind.i64.wrap (0 : Int) = 0 := rfl
  clear hO0 h1 hX r1 r2 b1 b2 hoc hof hB hB0 hG0 hs hl hne hn
  generalize insP ks k = ks' at *
  generalize pos ks k = i at *
  obtain ⟨p, q, s⟩ := k
  unfold kval at *
  simp only at CP HI HC HP hw0
  obtain ⟨⟨d0, d1, d2⟩, c2, c3, f3⟩ := HC.out w0 w0 (Gr.refl _) (.inl (Below.refl _ _))
  go_enter Try.func34, Try.ntmps34
  go_upto_region 1 with fail
  rw [← hw0.out]
  go_wp2_with fail
  refine (CP.out).mono ?_; rintro e w1 ⟨rfl, hG1⟩
  clear d0 d1 d2 c2 c3 f3
  obtain ⟨⟨d0, d1, d2⟩, c2, c3, f3⟩ := HC.out w1 w1 hG1 (.inl (Below.refl _ _))
  have HG1 := Lib.hid hG1
  clear hG1
  go_wp2_with fail
  refine RegZ.start (S := fun W => (W.cell? ⟨w.heap.size, 0, none⟩ = some (.int .i64 p) ∧ W.cell? ⟨w.heap.size, 1, none⟩ = some (.int .i64 q) ∧ W.cell? ⟨w.heap.size, 2, none⟩ = some (.int .u32 s)) ∧
      W.cell? ⟨g, 2, none⟩ = some (.slice (some ⟨ob, 0, none⟩) 1 oc) ∧ W.cell? ⟨ob, 0, none⟩ = some (.slice (some ⟨pb, 0, none⟩) n pc) ∧ W.frozen? ⟨ob, 0, none⟩ = false) (z := 17) (by kernel_rfl) ?_
  have hS0 := HC.out w1 w1.drew HG1.out (.inl (Below.refl _ _).drew)
  refine RegZ.AnyZ.take (i := 0) (v := ?_) rfl (by decide) (by kernel_rfl) (by kernel_rfl) (by kernel_rfl) (by kernel_rfl) (fun _ _ _ h => h) (Or.inl ⟨by rfl, ?_⟩) (by assumption) ?_
  rotate_left
  · intro W hSw; obtain ⟨⟨d0, d1, d2⟩, c2, c3, f3⟩ := hSw; go_simp; try with_reducible rfl
  try simp only [Act.put, List.setIfInBounds_toArray, List.set_cons_zero, List.set_cons_succ]
  refine RegZ.AnyZ.take (i := 1) (v := ?_) rfl (by decide) (by kernel_rfl) (by kernel_rfl) (by kernel_rfl) (by kernel_rfl) (fun _ _ _ h => h) (Or.inl ⟨by rfl, ?_⟩) (by assumption) ?_
  rotate_left
  · intro W hSw; obtain ⟨⟨d0, d1, d2⟩, c2, c3, f3⟩ := hSw; go_simp; try with_reducible rfl
  try simp only [Act.put, List.setIfInBounds_toArray, List.set_cons_zero, List.set_cons_succ]
  refine RegZ.AnyZ.take (i := 2) (v := ?_) rfl (by decide) (by kernel_rfl) (by kernel_rfl) (by kernel_rfl) (by kernel_rfl) (fun _ _ _ h => h) (Or.inl ⟨by rfl, ?_⟩) (by assumption) ?_
  rotate_left
  · intro W hSw; obtain ⟨⟨d0, d1, d2⟩, c2, c3, f3⟩ := hSw; go_simp; try with_reducible rfl
  try simp only [Act.put, List.setIfInBounds_toArray, List.set_cons_zero, List.set_cons_succ]
  refine RegZ.AnyZ.take (i := 3) (v := ?_) rfl (by decide) (by kernel_rfl) (by kernel_rfl) (by kernel_rfl) (by kernel_rfl) (fun _ _ _ h => h) (Or.inl ⟨by rfl, ?_⟩) (by assumption) ?_
  rotate_left
  · intro W hSw; obtain ⟨⟨d0, d1, d2⟩, c2, c3, f3⟩ := hSw; go_simp; try with_reducible rfl
  try simp only [Act.put, List.setIfInBounds_toArray, List.set_cons_zero, List.set_cons_succ]
  refine RegZ.AnyZ.take (i := 4) (v := ?_) rfl (by decide) (by kernel_rfl) (by kernel_rfl) (by kernel_rfl) (by kernel_rfl) (fun _ _ _ h => h) (Or.inl ⟨by rfl, ?_⟩) (by assumption) ?_
  rotate_left
  · intro W hSw; obtain ⟨⟨d0, d1, d2⟩, c2, c3, f3⟩ := hSw; go_simp; try with_reducible rfl
  try simp only [Act.put, List.setIfInBounds_toArray, List.set_cons_zero, List.set_cons_succ]
  refine RegZ.AnyZ.take (i := 5) (v := ?_) rfl (by decide) (by kernel_rfl) (by kernel_rfl) (by kernel_rfl) (by kernel_rfl) (fun _ _ _ h => h) (Or.inl ⟨by rfl, ?_⟩) (by assumption) ?_
  rotate_left
  · intro W hSw; obtain ⟨⟨d0, d1, d2⟩, c2, c3, f3⟩ := hSw; go_simp; try with_reducible rfl
  try simp only [Act.put, List.setIfInBounds_toArray, List.set_cons_zero, List.set_cons_succ]
  refine RegZ.AnyZ.take (i := 6) (v := ?_) rfl (by decide) (by kernel_rfl) (by kernel_rfl) (by kernel_rfl) (by kernel_rfl) (fun _ _ _ h => h) (Or.inl ⟨by rfl, ?_⟩) (by assumption) ?_
  rotate_left
  · intro W hSw; obtain ⟨⟨d0, d1, d2⟩, c2, c3, f3⟩ := hSw; go_simp; try with_reducible rfl
  try simp only [Act.put, List.setIfInBounds_toArray, List.set_cons_zero, List.set_cons_succ]
  refine RegZ.AnyZ.take (i := 7) (v := ?_) rfl (by decide) (by kernel_rfl) (by kernel_rfl) (by kernel_rfl) (by kernel_rfl) (fun _ _ _ h => h) (Or.inl ⟨by rfl, ?_⟩) (by assumption) ?_
  rotate_left
  · intro W hSw; obtain ⟨⟨d0, d1, d2⟩, c2, c3, f3⟩ := hSw; go_simp; try with_reducible rfl
  try simp only [Act.put, List.setIfInBounds_toArray, List.set_cons_zero, List.set_cons_succ]
  refine RegZ.AnyZ.take (i := 8) (v := ?_) rfl (by decide) (by kernel_rfl) (by kernel_rfl) (by kernel_rfl) (by kernel_rfl) (fun _ _ _ h => h) (Or.inl ⟨by rfl, ?_⟩) (by assumption) ?_
  rotate_left
  · intro W hSw; obtain ⟨⟨d0, d1, d2⟩, c2, c3, f3⟩ := hSw; go_simp; try with_reducible rfl
  try simp only [Act.put, List.setIfInBounds_toArray, List.set_cons_zero, List.set_cons_succ]
  refine RegZ.AnyZ.take (i := 9) (v := ?_) rfl (by decide) (by kernel_rfl) (by kernel_rfl) (by kernel_rfl) (by kernel_rfl) (fun _ _ _ h => h) (Or.inl ⟨by rfl, ?_⟩) (by assumption) ?_
  rotate_left
  · intro W hSw; obtain ⟨⟨d0, d1, d2⟩, c2, c3, f3⟩ := hSw; go_simp; try with_reducible rfl
  try simp only [Act.put, List.setIfInBounds_toArray, List.set_cons_zero, List.set_cons_succ]
  refine RegZ.AnyZ.take (i := 10) (v := ?_) rfl (by decide) (by kernel_rfl) (by kernel_rfl) (by kernel_rfl) (by kernel_rfl) (fun _ _ _ h => h) (Or.inl ⟨by rfl, ?_⟩) (by assumption) ?_
  rotate_left
  · intro W hSw; obtain ⟨⟨d0, d1, d2⟩, c2, c3, f3⟩ := hSw; go_simp; try with_reducible rfl
  try simp only [Act.put, List.setIfInBounds_toArray, List.set_cons_zero, List.set_cons_succ]
  refine RegZ.AnyZ.take (i := 11) (v := ?_) rfl (by decide) (by kernel_rfl) (by kernel_rfl) (by kernel_rfl) (by kernel_rfl) (fun _ _ _ h => h) (Or.inl ⟨by rfl, ?_⟩) (by assumption) ?_
  rotate_left
  · intro W hSw; obtain ⟨⟨d0, d1, d2⟩, c2, c3, f3⟩ := hSw; go_simp; try with_reducible rfl
  try simp only [Act.put, List.setIfInBounds_toArray, List.set_cons_zero, List.set_cons_succ]
  refine RegZ.AnyZ.take (i := 12) (v := ?_) rfl (by decide) (by kernel_rfl) (by kernel_rfl) (by kernel_rfl) (by kernel_rfl) (fun _ _ _ h => h) (Or.inl ⟨by rfl, ?_⟩) (by assumption) ?_
  rotate_left
  · intro W hSw; obtain ⟨⟨d0, d1, d2⟩, c2, c3, f3⟩ := hSw; go_simp; try with_reducible rfl
  try simp only [Act.put, List.setIfInBounds_toArray, List.set_cons_zero, List.set_cons_succ]
  refine RegZ.AnyZ.take (i := 13) (v := ?_) rfl (by decide) (by kernel_rfl) (by kernel_rfl) (by kernel_rfl) (by kernel_rfl) (fun _ _ _ h => h) (Or.inl ⟨by rfl, ?_⟩) (by assumption) ?_
  rotate_left
  · intro W hSw; obtain ⟨⟨d0, d1, d2⟩, c2, c3, f3⟩ := hSw; go_simp; try with_reducible rfl
  try simp only [Act.put, List.setIfInBounds_toArray, List.set_cons_zero, List.set_cons_succ]
  refine RegZ.AnyZ.one (i := 14) (by kernel_rfl) rfl (fun K hK => ?_)
  go_simp
  refine hK.out _ _ (HC.out w1 _ HG1.out (.inl ((Below.refl w1.heap.size w1).alloc (Nat.le_refl _) _).drew)) (fun hS1 => ?_)
  clear hK K
  refine RegZ.AnyZ.one (i := 15) (by kernel_rfl) rfl (fun K hK => ?_)
  go_simp
  go_wp2_with (go_at_call 47; refine (HI.out w1 HG1.out).mono ?_; rintro e w7 ⟨g', cap', rfl, h7, hg7, hgn⟩)
  refine hK.out _ _ (HC.out w1 _ HG1.out (.inr hg7)) (fun hS1 => ?_)
  clear hK K
  refine RegZ.AnyZ.take (i := 16) (v := ?_) rfl (by decide) (by kernel_rfl) (by kernel_rfl) (by kernel_rfl) (by kernel_rfl) (fun _ _ _ h => h) (Or.inl ⟨by rfl, ?_⟩) (by assumption) ?_
  rotate_left
  · intro W hSw; obtain ⟨⟨d0, d1, d2⟩, c2, c3, f3⟩ := hSw; go_simp; try with_reducible rfl
  try simp only [Act.put, List.setIfInBounds_toArray, List.set_cons_zero, List.set_cons_succ]
  obtain ⟨-, c7, c8, f8⟩ := hS1
  refine RegZ.AnyZ.last (z := 17) (by kernel_rfl) rfl (by kernel_rfl) (fun K hK => ?_)
  go_simp
  refine hK.out _ _ ?_
  clear hK K
  obtain ⟨hp1, hp2, hp3⟩ := HP.out w1 w7 g' cap' HG1.out h7 hg7 hgn
  have HP1 := Lib.hid hp1
  clear c2 c3 f3 d0 d1 d2 c7 c8 f8 hS0 hp1 h7 hg7 hgn
  go_wp2_with fail
  go_end0
  exact HP1.out
end Go.Proofs.Ytolcidilnmjlmaa.TblL
