/- Contracts of package table (layer 7): Min, Pop. -/
import Derived.Test.YtolcidilnmjlmaaTblJ
namespace Go.Proofs.Ytolcidilnmjlmaa.TblL
open Go.ChangeShapes Go.WideShapes Go.ChangeAt Go.RowKit Go.Sort
open Go.Proofs.Ytolcidilnmjlmaa.Key Go.Proofs.Ytolcidilnmjlmaa.Rw Go.Proofs.Ytolcidilnmjlmaa.Tbl
set_option linter.unusedVariables false
set_option linter.unusedSimpArgs false
def minK : List Row → Ky
  | [] => (0, 0, 0)
  | r :: _ => r.1
def minV : List Row → Int
  | [] => 0
  | r :: _ => r.2
def some1 (d : List Row) : Bool := !d.isEmpty
theorem setC3 {w : World} {g : Nat} {v0 v1 v2 u0 u1 u2 : Value} (h0 : w.cell? ⟨g, 0, none⟩ = some v0) (h1 : w.cell? ⟨g, 1, none⟩ = some v1) (h2 : w.cell? ⟨g, 2, none⟩ = some v2) :
    (((w.setCell ⟨g, 0, none⟩ u0).setCell ⟨g, 1, none⟩ u1).setCell ⟨g, 2, none⟩ u2).cell? ⟨g, 0, none⟩ = some u0 ∧
    (((w.setCell ⟨g, 0, none⟩ u0).setCell ⟨g, 1, none⟩ u1).setCell ⟨g, 2, none⟩ u2).cell? ⟨g, 1, none⟩ = some u1 ∧
    (((w.setCell ⟨g, 0, none⟩ u0).setCell ⟨g, 1, none⟩ u1).setCell ⟨g, 2, none⟩ u2).cell? ⟨g, 2, none⟩ = some u2 := by
  have n01 : (⟨g, 0, none⟩ : Addr) ≠ ⟨g, 1, none⟩ := by simp
  have n02 : (⟨g, 0, none⟩ : Addr) ≠ ⟨g, 2, none⟩ := by simp
  have n12 : (⟨g, 1, none⟩ : Addr) ≠ ⟨g, 2, none⟩ := by simp
  refine ⟨?_, ?_, ?_⟩
  · rw [World.cell?_setCell_other (h := Ne.symm n02), World.cell?_setCell_other (h := Ne.symm n01), World.cell?_setCell_same (h := h0)]
  · rw [World.cell?_setCell_other (h := Ne.symm n12), World.cell?_setCell_same (h := by rw [World.cell?_setCell_other (h := n01)]; exact h1)]
  · rw [World.cell?_setCell_same (h := by rw [World.cell?_setCell_other (h := n12), World.cell?_setCell_other (h := n02)]; exact h2)]
theorem min_any (g : Nat) (most : Int) (d : List Row) (F : Nat → Prop) (w : World) (h : TabL w g most d F) (hd : d.length ≤ 1000000) :
    Calls Try.prog 19 #[.pointer (some ⟨g, 0, none⟩)] w fun e w' => e = .returned (.tuple #[kval (minK d), .int .i64 (minV d), .bool (some1 d)]) ∧ Below w.heap.size w w' := by
  obtain ⟨w0, hw0⟩ : ∃ w0, Hid (w0 = w.alloc (.cells #[.int .i64 0, .int .i64 0, .int .u32 0] 34)) := ⟨_, Lib.hid rfl⟩
  have hB0 : Below w.heap.size w w0 := by rw [hw0.out]; exact box_below _ _
  have bk : Blk w0 w.heap.size 34 #[.int .i64 0, .int .i64 0, .int .u32 0] := by rw [hw0.out]; exact Blk.new _ _ _
  have h0 := h.below hB0
  have CL := Lib.hid (len_any g most d F w0 h0)
  obtain ⟨z0, z1, z2⟩ : w0.cell? ⟨w.heap.size, 0, none⟩ = some (.int .i64 0) ∧ w0.cell? ⟨w.heap.size, 1, none⟩ = some (.int .i64 0) ∧ w0.cell? ⟨w.heap.size, 2, none⟩ = some (.int .u32 0) := ⟨bk.cell 0, bk.cell 1, bk.cell 2⟩
  have y0 := bk.free 0
  have y1 := bk.free 1
  have y2 := bk.free 2
  have HB0 := Lib.hid hB0
  cases d with
  | nil =>
    clear h h0 bk
    simp only [List.length_nil] at CL
    go_enter Try.func19, Try.ntmps19
    go_upto_region 1 with fail
    rw [← hw0.out]
    go_wp2_with fail
    refine (CL.out).mono ?_; rintro e w1 ⟨rfl, rfl⟩
    go_wp2_with fail
    obtain ⟨r0, r1, r2⟩ := setC3 (u0 := .int .i64 0) (u1 := .int .i64 0) (u2 := .int .u32 0) z0 z1 z2
    refine bodyPost_ret (v := .tuple #[kval (0, 0, 0), .int .i64 0, .bool false]) (by simp [results, Try.results19, go_sem, r0, r1, r2]; rfl) rfl ?_
    exact ⟨rfl, ((HB0.out.setCell (Nat.le_refl _) _).setCell (Nat.le_refl _) _).setCell (Nat.le_refl _) _⟩
  | cons r d =>
    obtain ⟨mb, ov, s1, s2, s3, s4, s5, s6, s7⟩ := h
    have hko : ok r.1 := s7 r.1 (by simp [keys])
    have t1 := s1.below hB0
    have t2 := s2.below hB0
    have t3 := s3.kept hB0.size (fun j _ hj => hB0.block j hj)
    have hne : keys (r :: d) ≠ [] := by simp [keys]
    obtain ⟨ob, oc, pb, pc, rfl, hoc, hof, hP, hob, hpb, -, -, -⟩ := t3.first hne
    obtain ⟨b, off, e, hb, hc⟩ := (hP.rd enc_len).1.at_ (i := 0) (by simp [keys])
    obtain ⟨rfl, rfl⟩ : pb = b ∧ 0 = off := by simpa using e
    have hk0 : (keys (r :: d)).getD 0 default = r.1 := by simp [keys]
    rw [hk0] at hc
    obtain ⟨c0, c1, c2⟩ := at3 hc
    simp only [Nat.zero_mul, Nat.zero_add] at c0 c1 c2
    have e2 : w0.cell? ⟨g, 2, none⟩ = some (.slice (some ⟨ob, 0, none⟩) 1 oc) := t1.cell 2
    obtain ⟨kl, hkl⟩ := key_read r.1 hko
    have hlen : (keys (r :: d)).length = d.length + 1 := by simp [keys]
    rw [hlen] at hoc
    have hn0 : (0 : Int) < ((d.length + 1 : Nat) : Int) := by omega
    have hn1 : (((d.length + 1 : Nat) : Int) == 0) = false := by simp; omega
    simp only [List.length_cons] at CL
    obtain ⟨W1, hW1⟩ : ∃ W1, Hid (W1 = ((w0.setCell ⟨w.heap.size, 0, none⟩ (.int .i64 r.1.1)).setCell ⟨w.heap.size, 1, none⟩ (.int .i64 r.1.2.1)).setCell ⟨w.heap.size, 2, none⟩ (.int .u32 r.1.2.2)) := ⟨_, Lib.hid rfl⟩
    have hB1 : Below w.heap.size w0 W1 := by rw [hW1.out]; exact (((Below.refl _ _).setCell (p := ⟨w.heap.size, 0, none⟩) (Nat.le_refl _) _).setCell (p := ⟨w.heap.size, 1, none⟩) (Nat.le_refl _) _).setCell (p := ⟨w.heap.size, 2, none⟩) (Nat.le_refl _) _
    have b1 : Blk W1 w.heap.size 34 #[.int .i64 r.1.1, .int .i64 r.1.2.1, .int .u32 r.1.2.2] := by
      rw [hW1.out]
      exact ((bk.put 0 _).put 1 _).put 2 _
    have hgl := s1.lt
    have hml := s2.lt
    have i1 : Tb.Is Try.prog 34 kval W1.drew mb (r :: d).length (vof (r :: d)) := (t2.of_block (hB1.block mb hml)).of_block rfl
    have el := i1.look lawK kval_inj Try.underlying58 zeroVal hkl false
    simp only [Bool.false_eq_true, if_false] at el
    have ev : (vof (r :: d) r.1).getD (.int .i64 0) = .int .i64 r.2 := by unfold vof lookR; rw [if_pos rfl]; rfl
    rw [ev] at el
    have g1 : W1.cell? ⟨g, 1, none⟩ = some (.map (some mb)) := by have := (t1.below2 hB1 hgl).cell 1; simpa using this
    obtain ⟨q0, q1, q2⟩ : W1.cell? ⟨w.heap.size, 0, none⟩ = some (.int .i64 r.1.1) ∧ W1.cell? ⟨w.heap.size, 1, none⟩ = some (.int .i64 r.1.2.1) ∧ W1.cell? ⟨w.heap.size, 2, none⟩ = some (.int .u32 r.1.2.2) := ⟨b1.cell 0, b1.cell 1, b1.cell 2⟩
    have f0 := b1.free 0
    have f1 := b1.free 1
    have f2 := b1.free 2
    have HB1 : Hid (Below w.heap.size w W1) := Lib.hid (HB0.out.trans hB1)
    obtain ⟨W2, hW2⟩ : ∃ W2, W2 = ((W1.setCell ⟨w.heap.size, 0, none⟩ (.int .i64 r.1.1)).setCell ⟨w.heap.size, 1, none⟩ (.int .i64 r.1.2.1)).setCell ⟨w.heap.size, 2, none⟩ (.int .u32 r.1.2.2) := ⟨_, rfl⟩
    have hB2 : Below w.heap.size W1 W2 := by rw [hW2]; exact (((Below.refl _ _).setCell (p := ⟨w.heap.size, 0, none⟩) (Nat.le_refl _) _).setCell (p := ⟨w.heap.size, 1, none⟩) (Nat.le_refl _) _).setCell (p := ⟨w.heap.size, 2, none⟩) (Nat.le_refl _) _
    have i2 : Tb.Is Try.prog 34 kval W2.drew mb (r :: d).length (vof (r :: d)) := ((t2.of_block (hB1.block mb hml)).of_block (hB2.block mb hml)).of_block rfl
    have el2 := i2.look lawK kval_inj Try.underlying58 zeroVal hkl false
    simp only [Bool.false_eq_true, if_false] at el2
    rw [ev] at el2
    have g2 : W2.cell? ⟨g, 1, none⟩ = some (.map (some mb)) := (hB2.cell (p := ⟨g, 1, none⟩) hgl).trans g1
    obtain ⟨q3, q4, q5⟩ := setC3 (u0 := .int .i64 r.1.1) (u1 := .int .i64 r.1.2.1) (u2 := .int .u32 r.1.2.2) q0 q1 q2
    have HB2 : Hid (Below w.heap.size w W2) := Lib.hid (HB1.out.trans hB2)
    subst hW2
    have hv : minK (r :: d) = r.1 := rfl
    have hv2 : minV (r :: d) = r.2 := rfl
    rw [hv, hv2]
    clear bk h0 s1 s2 s3 s4 s5 s6 s7 t1 t2 t3 hc hP hof hB0 hB1 hB2 b1 i1 i2 ev hkl hko hne hlen hk0 hob hpb hgl hml hv hv2 e hb
    generalize d.length + 1 = n at *
    obtain ⟨⟨p, q, s⟩, v⟩ := r
    unfold kval at *
    simp only at c0 c1 c2 q0 q1 q2 q3 q4 q5 el el2 g2 HB2 hW1
    go_enter Try.func19, Try.ntmps19
    go_upto_region 1 with fail
    rw [← hw0.out]
    go_wp2_with fail
    refine (CL.out).mono ?_; rintro e w1 ⟨rfl, rfl⟩
    go_upto_region 4 with fail
    rw [← hW1.out]
    clear z0 z1 z2 y0 y1 y2 c0 c1 c2 e2 hoc
    go_region
    go_wp2_with fail
    refine bodyPost_ret (v := .tuple #[kval (p, q, s), .int .i64 v, .bool true]) (by simp [results, Try.results19, go_sem, q3, q4, q5]; rfl) rfl ?_
    exact ⟨rfl, HB2.out.drew⟩
theorem pos_first {d : List Row} {r : Row} : pos (keys (r :: d)) r.1 = 0 := by
  unfold pos keys
  rw [List.map_cons, List.takeWhile_cons, lt_irrefl]
  rfl
theorem del_first (r : Row) (d : List Row) : delD (r :: d) r.1 = d := by
  unfold delD
  have : (lookR (r :: d) r.1).isSome = true := by unfold lookR; rw [if_pos rfl]; rfl
  rw [if_pos this, pos_first]
  rfl
theorem pop_any (g : Nat) (most : Int) (d : List Row) (F : Nat → Prop) (w : World) (h : TabL w g most d F) (hFb : ∀ j, F j → j < w.heap.size) (hd : d.length ≤ 1000000) :
    Calls Try.prog 14 #[.pointer (some ⟨g, 0, none⟩)] w fun e w' => e = .returned (.tuple #[kval (minK d), .int .i64 (minV d), .bool (some1 d)]) ∧ TabStay g most d.tail F w w' := by
  obtain ⟨w0, hw0⟩ : ∃ w0, Hid (w0 = w.alloc (.cells #[.int .i64 0, .int .i64 0, .int .u32 0] 34)) := ⟨_, Lib.hid rfl⟩
  have hB0 : Below w.heap.size w w0 := by rw [hw0.out]; exact box_below _ _
  have bk : Blk w0 w.heap.size 34 #[.int .i64 0, .int .i64 0, .int .u32 0] := by rw [hw0.out]; exact Blk.new _ _ _
  have hsz : w0.heap.size = w.heap.size + 1 := by rw [hw0.out, World.size_alloc]
  have CM := Lib.hid (min_any g most d F w0 (h.below hB0) hd)
  -- what is known behind Min: the result's box, the key's box
  have HK : Hid (∀ w1 (k : Ky), Below w0.heap.size w0 w1 → ((w1.alloc (.cells #[.int .i64 k.1, .int .i64 k.2.1, .int .u32 k.2.2] 34)).cell? ⟨w1.heap.size, 0, none⟩ = some (.int .i64 k.1) ∧ (w1.alloc (.cells #[.int .i64 k.1, .int .i64 k.2.1, .int .u32 k.2.2] 34)).cell? ⟨w1.heap.size, 1, none⟩ = some (.int .i64 k.2.1) ∧ (w1.alloc (.cells #[.int .i64 k.1, .int .i64 k.2.1, .int .u32 k.2.2] 34)).cell? ⟨w1.heap.size, 2, none⟩ = some (.int .u32 k.2.2)) ∧
      Below w.heap.size w (w1.alloc (.cells #[.int .i64 k.1, .int .i64 k.2.1, .int .u32 k.2.2] 34)) ∧ Blk (w1.alloc (.cells #[.int .i64 k.1, .int .i64 k.2.1, .int .u32 k.2.2] 34)) w.heap.size 34 #[.int .i64 0, .int .i64 0, .int .u32 0] ∧ Blk (w1.alloc (.cells #[.int .i64 k.1, .int .i64 k.2.1, .int .u32 k.2.2] 34)) w1.heap.size 34 #[.int .i64 k.1, .int .i64 k.2.1, .int .u32 k.2.2] ∧ w.heap.size ≠ w1.heap.size) := Lib.hid (fun w1 k hB => by
    have b := Blk.new w1 34 #[.int .i64 k.1, .int .i64 k.2.1, .int .u32 k.2.2]
    have hs := hB.size
    have hBB := hB0.trans (hB.mono hB0.size)
    exact ⟨⟨b.cell 0, b.cell 1, b.cell 2⟩, hBB.alloc hBB.size _, (bk.below hB).alloc _, b, by omega⟩)
  have HB0 := Lib.hid hB0
  cases d with
  | nil =>
    have HT : Hid (∀ w', Below w.heap.size w w' → TabStay g most ([] : List Row).tail F w w') := Lib.hid (fun w' hB => TabStay.same h hB)
    have HKk := Lib.hid (fun w1 => HK.out w1 (0, 0, 0))
    clear h bk HK
    unfold minK minV some1 kval at *
    simp only [List.isEmpty_nil, Bool.not_true] at CM HKk
    go_enter Try.func14, Try.ntmps14
    go_upto_region 1 with fail
    rw [← hw0.out]
    go_wp2_with fail
    refine (CM.out).mono ?_; rintro e w1 ⟨rfl, hB1⟩
    obtain ⟨⟨c0, c1, c2⟩, hBB, bz, -⟩ := HKk.out w1 hB1
    have z0 : (w1.alloc (.cells #[.int .i64 0, .int .i64 0, .int .u32 0] 34)).cell? ⟨w.heap.size, 0, none⟩ = some (.int .i64 0) := bz.cell 0
    have z1 : (w1.alloc (.cells #[.int .i64 0, .int .i64 0, .int .u32 0] 34)).cell? ⟨w.heap.size, 1, none⟩ = some (.int .i64 0) := bz.cell 1
    have z2 : (w1.alloc (.cells #[.int .i64 0, .int .i64 0, .int .u32 0] 34)).cell? ⟨w.heap.size, 2, none⟩ = some (.int .u32 0) := bz.cell 2
    have y0 := bz.free 0
    have y1 := bz.free 1
    have y2 := bz.free 2
    have HBB := Lib.hid hBB
    have HB1 := Lib.hid hB1
    clear bz hBB hB1 HKk
    go_wp2_with fail
    obtain ⟨r0, r1, r2⟩ := setC3 (u0 := .int .i64 0) (u1 := .int .i64 0) (u2 := .int .u32 0) z0 z1 z2
    refine bodyPost_ret (v := .tuple #[kval (0, 0, 0), .int .i64 0, .bool false]) (by simp [results, Try.results14, go_sem, r0, r1, r2]; rfl) rfl ?_
    exact ⟨rfl, HT.out _ (((HBB.out.setCell (p := ⟨w.heap.size, 0, none⟩) (Nat.le_refl _) _).setCell (p := ⟨w.heap.size, 1, none⟩) (Nat.le_refl _) _).setCell (p := ⟨w.heap.size, 2, none⟩) (Nat.le_refl _) _)⟩
  | cons r d =>
    have hko : ok r.1 := by obtain ⟨mb, ov, -, -, -, -, -, -, s7⟩ := h; exact s7 r.1 (by simp [keys])
    have hv : minK (r :: d) = r.1 := rfl
    have hv2 : minV (r :: d) = r.2 := rfl
    have hv3 : some1 (r :: d) = true := rfl
    rw [hv, hv2, hv3] at CM ⊢
    have HKk := Lib.hid (fun w1 => HK.out w1 r.1)
    -- behind Del: the table, the result's box, the key's box
    have HD : Hid (∀ w1, Below w0.heap.size w0 w1 → Calls Try.prog 20 #[.pointer (some ⟨g, 0, none⟩), kval r.1] (w1.alloc (.cells #[.int .i64 r.1.1, .int .i64 r.1.2.1, .int .u32 r.1.2.2] 34)) fun e w3 => e = .returned (.bool true) ∧
        ((w3.cell? ⟨w1.heap.size, 0, none⟩ = some (.int .i64 r.1.1) ∧ w3.cell? ⟨w1.heap.size, 1, none⟩ = some (.int .i64 r.1.2.1) ∧ w3.cell? ⟨w1.heap.size, 2, none⟩ = some (.int .u32 r.1.2.2)) ∧ Blk w3 w.heap.size 34 #[.int .i64 0, .int .i64 0, .int .u32 0]) ∧
        ∀ u0 u1 u2, TabStay g most d F w (((w3.setCell ⟨w.heap.size, 0, none⟩ u0).setCell ⟨w.heap.size, 1, none⟩ u1).setCell ⟨w.heap.size, 2, none⟩ u2)) := Lib.hid (fun w1 hB => by
      obtain ⟨⟨c0, c1, c2⟩, hBB, bz, b5, hne⟩ := HK.out w1 r.1 hB
      have hs2 := hBB.size
      refine (del_any r.1 hko g most (r :: d) F _ (h.below hBB) hd).mono fun e w3 hh => ?_
      obtain ⟨he, ht, hst⟩ := hh
      rw [del_first] at ht
      have hl : (lookR (r :: d) r.1).isSome = true := by unfold lookR; rw [if_pos rfl]; rfl
      rw [hl] at he
      have n1 : ¬ F w.heap.size := fun e => by have := hFb _ e; omega
      have n2 : ¬ F w1.heap.size := fun e => by have := hFb _ e; have := hB.size; omega
      have b5' := b5.stay hst n2
      have bz' := bz.stay hst n1
      refine ⟨he, ⟨⟨b5'.cell 0, b5'.cell 1, b5'.cell 2⟩, bz'⟩, fun u0 u1 u2 => ?_⟩
      have hB3 : ∀ (W : World), Below w.heap.size W (((W.setCell ⟨w.heap.size, 0, none⟩ u0).setCell ⟨w.heap.size, 1, none⟩ u1).setCell ⟨w.heap.size, 2, none⟩ u2) := fun W => (((Below.refl _ _).setCell (p := ⟨w.heap.size, 0, none⟩) (Nat.le_refl _) _).setCell (p := ⟨w.heap.size, 1, none⟩) (Nat.le_refl _) _).setCell (p := ⟨w.heap.size, 2, none⟩) (Nat.le_refl _) _
      have hst2 : Stay F w (((w3.setCell ⟨w.heap.size, 0, none⟩ u0).setCell ⟨w.heap.size, 1, none⟩ u1).setCell ⟨w.heap.size, 2, none⟩ u2) := ((Stay.of_below (F := F) hBB).snoc hst (fun j _ e => e)).snoc (Stay.mono (F := fun j => w.heap.size ≤ j) ⟨(hB3 w3).os, (hB3 w3).tape, (hB3 w3).output, (hB3 w3).size, fun j hj hn => (hB3 w3).block j (by omega)⟩ (fun j e => e)) (fun j hj e => by omega)
      refine ⟨?_, hst2⟩
      -- the table's blocks are not the result's box
      have hnb : ∀ j, F j → j ≠ w.heap.size := fun j hj e => by
        subst e
        exact n1 hj
      have ht2 := ht.kept (w' := (((w3.setCell ⟨w.heap.size, 0, none⟩ u0).setCell ⟨w.heap.size, 1, none⟩ u1).setCell ⟨w.heap.size, 2, none⟩ u2)) (hB3 w3).size (fun j hj hjl => by
        have hn := hnb j hj
        rw [Below.heap_setCell _ _ _ _ (by simpa using hn), Below.heap_setCell _ _ _ _ (by simpa using hn), Below.heap_setCell _ _ _ _ (by simpa using hn)])
      exact ht2)
    clear h bk HK hv hv2 hv3 hko hFb
    obtain ⟨⟨p, q, s⟩, v⟩ := r
    unfold kval at *
    simp only at CM HKk HD
    go_enter Try.func14, Try.ntmps14
    go_upto_region 1 with fail
    rw [← hw0.out]
    go_wp2_with fail
    refine (CM.out).mono ?_; rintro e w1 ⟨rfl, hB1⟩
    obtain ⟨⟨c0, c1, c2⟩, -⟩ := HKk.out w1 hB1
    have HDk := Lib.hid (HD.out w1 hB1)
    clear hB1 HKk HD
    go_wp2_with fail
    refine (HDk.out).mono ?_; rintro e w3 ⟨rfl, ⟨⟨d0, d1, d2⟩, bz⟩, hT⟩
    have HT := Lib.hid hT
    have z0 : w3.cell? ⟨w.heap.size, 0, none⟩ = some (.int .i64 0) := bz.cell 0
    have z1 : w3.cell? ⟨w.heap.size, 1, none⟩ = some (.int .i64 0) := bz.cell 1
    have z2 : w3.cell? ⟨w.heap.size, 2, none⟩ = some (.int .u32 0) := bz.cell 2
    have y0 := bz.free 0
    have y1 := bz.free 1
    have y2 := bz.free 2
    clear bz hT c0 c1 c2 HDk
    go_wp2_with fail
    obtain ⟨r0, r1, r2⟩ := setC3 (u0 := .int .i64 p) (u1 := .int .i64 q) (u2 := .int .u32 s) z0 z1 z2
    refine bodyPost_ret (v := .tuple #[kval (p, q, s), .int .i64 v, .bool true]) (by simp [results, Try.results14, go_sem, r0, r1, r2]; rfl) rfl ?_
    exact ⟨rfl, HT.out _ _ _⟩
end Go.Proofs.Ytolcidilnmjlmaa.TblL
