/- Contracts of package table (layer 7): Drop. -/
import Derived.Test.YtolcidilnmjlmaaTblO
namespace Go.Proofs.Ytolcidilnmjlmaa.TblL
open Go.ChangeShapes Go.WideShapes Go.ChangeAt Go.RowKit Go.Sort Go.Shelf
open Go.Proofs.Ytolcidilnmjlmaa.Key Go.Proofs.Ytolcidilnmjlmaa.Rw Go.Proofs.Ytolcidilnmjlmaa.Tbl
set_option linter.unusedVariables false
set_option linter.unusedSimpArgs false
attribute [local go_sem] Oper.semAt_some
/-- What is there behind i rounds. -/
def dropI (pr : Row → Bool) (d : List Row) (i : Nat) : List Row := (d.take i).filter (fun r => !pr r) ++ d.drop i
def dropN (pr : Row → Bool) (d : List Row) (i : Nat) : Nat := ((d.take i).filter pr).length
theorem take_row {d : List Row} {i : Nat} (h : i < d.length) : d.take (i + 1) = d.take i ++ [rowAt d i] := by
  rw [List.take_succ_eq_append_getElem h]; simp [rowAt, List.getD, h]
theorem drop_row {d : List Row} {i : Nat} (h : i < d.length) : d.drop i = rowAt d i :: d.drop (i + 1) := by
  rw [List.drop_eq_getElem_cons h]; simp [rowAt, List.getD, h]
theorem dropI_no {pr : Row → Bool} {d : List Row} {i : Nat} (h : i < d.length) (hp : pr (rowAt d i) = false) : dropI pr d (i + 1) = dropI pr d i := by
  unfold dropI
  rw [take_row h, List.filter_append, drop_row h]
  simp [hp]
theorem dropN_no {pr : Row → Bool} {d : List Row} {i : Nat} (h : i < d.length) (hp : pr (rowAt d i) = false) : dropN pr d (i + 1) = dropN pr d i := by
  unfold dropN
  rw [take_row h, List.filter_append]
  simp [hp]
theorem dropN_yes {pr : Row → Bool} {d : List Row} {i : Nat} (h : i < d.length) (hp : pr (rowAt d i) = true) : dropN pr d (i + 1) = dropN pr d i + 1 := by
  unfold dropN
  rw [take_row h, List.filter_append]
  simp [hp]
theorem dropI_str {pr : Row → Bool} {d : List Row} (hs : Str (keys d)) (i : Nat) : Str (keys (dropI pr d i)) := by
  unfold dropI keys
  have : ((d.take i).filter (fun r => !pr r) ++ d.drop i).Sublist d := by
    conv => rhs; rw [← List.take_append_drop i d]
    exact List.Sublist.append List.filter_sublist (List.Sublist.refl _)
  exact hs.sublist (this.map _)
theorem dropI_len (pr : Row → Bool) (d : List Row) (i : Nat) : (dropI pr d i).length ≤ d.length := by
  unfold dropI
  have h1 := List.length_filter_le (fun r => !pr r) (d.take i)
  rw [List.length_append, List.length_drop]
  rw [List.length_take] at h1
  omega
theorem look_mid {A B : List Row} {r : Row} (hs : Str (keys (A ++ r :: B))) : lookR (A ++ r :: B) r.1 = some r.2 ∧ delD (A ++ r :: B) r.1 = A ++ B := by
  have hl : A.length < (A ++ r :: B).length := by simp
  have hk : (keys (A ++ r :: B)).getD A.length default = r.1 := by simp [keys, List.getD]
  have h1 := lookR_at hs hl
  rw [hk] at h1
  have h2 : (A ++ r :: B)[A.length] = r := by simp
  rw [h2] at h1
  refine ⟨h1, ?_⟩
  have hm : r.1 ∈ keys (A ++ r :: B) := by simp [keys]
  obtain ⟨p1, p2⟩ := pos_at hs hm
  have hp : pos (keys (A ++ r :: B)) r.1 = A.length := by
    refine pos_is (by rw [keys_len]; omega) (fun t ht => ?_) (fun t h3 h4 => ?_)
    · have := str_lt hs ht (by rw [keys_len]; exact hl); rwa [hk] at this
    · rcases Nat.eq_or_lt_of_le h3 with e | h
      · rw [← e, hk]; exact lt_irrefl _
      · have := str_lt hs h h4; rw [hk] at this; exact lt_asymm this
  unfold delD
  rw [h1, hp]
  simp only [Option.isSome_some, if_true]
  unfold delR
  simp
theorem dropI_yes {pr : Row → Bool} {d : List Row} {i : Nat} (hs : Str (keys d)) (h : i < d.length) (hp : pr (rowAt d i) = true) : delD (dropI pr d i) (rowAt d i).1 = dropI pr d (i + 1) := by
  have h1 := dropI_str (pr := pr) hs i
  have e : dropI pr d i = (d.take i).filter (fun r => !pr r) ++ rowAt d i :: d.drop (i + 1) := by unfold dropI; rw [drop_row h]
  rw [e] at h1 ⊢
  rw [(look_mid h1).2]
  unfold dropI
  rw [take_row h, List.filter_append]
  simp [hp]
theorem dropI_look {pr : Row → Bool} {d : List Row} {i j : Nat} (hs : Str (keys d)) (hij : i ≤ j) (h : j < d.length) : lookR (dropI pr d i) (rowAt d j).1 = some (rowAt d j).2 := by
  have h1 := dropI_str (pr := pr) hs i
  have e : d.drop i = (d.drop i).take (j - i) ++ rowAt d j :: d.drop (j + 1) := by
    conv => lhs; rw [← List.take_append_drop (j - i) (d.drop i), List.drop_drop, show i + (j - i) = j by omega, drop_row h]
  have e2 : dropI pr d i = ((d.take i).filter (fun r => !pr r) ++ (d.drop i).take (j - i)) ++ rowAt d j :: d.drop (j + 1) := by
    unfold dropI
    rw [List.append_assoc, ← e]
  rw [e2] at h1 ⊢
  exact (look_mid h1).1
theorem dropI_all (pr : Row → Bool) (d : List Row) : dropI pr d d.length = d.filter (fun r => !pr r) := by unfold dropI; simp
theorem dropN_all (pr : Row → Bool) (d : List Row) : dropN pr d d.length = (d.filter pr).length := by unfold dropN; simp
/-- What holds between two rounds of Drop: the table; the boxes of the table, of the function, of the count, of the iterator's table. -/
def DropI (pr : Row → Bool) (nf : Nat) (nb : Array Value) (g : Nat) (most : Int) (d : List Row) (F : Nat → Prop) (w : World) (i : Nat) (W : World) : Prop :=
  TabL W g most (dropI pr d i) F ∧ Stay F w W ∧ Blk W w.heap.size 23 #[.pointer (some ⟨g, 0, none⟩)] ∧ Blk W (w.heap.size + 1) 57 #[.func (.func nf) #[] nb] ∧
    Blk W (w.heap.size + 1 + 1) 3 #[.int .i64 (dropN pr d i : Nat)] ∧ Blk W (w.heap.size + 1 + 1 + 1) 23 #[.pointer (some ⟨g, 0, none⟩)]
theorem Stay.more {F : Nat → Prop} {w W W' : World} (h : Stay F w W) (hB : Below w.heap.size W W') : Stay F w W' :=
  ⟨hB.os.trans h.os, hB.tape.trans h.tape, hB.output.trans h.output, Nat.le_trans h.size hB.size, fun k hk hn => (hB.block k hk).trans (h.block k hk hn)⟩
theorem DropI.below {pr : Row → Bool} {nf : Nat} {nb : Array Value} {g : Nat} {most : Int} {d : List Row} {F : Nat → Prop} {w W W' : World} {i m : Nat} (h : DropI pr nf nb g most d F w i W) (hB : Below m W W') (hFb : ∀ j, F j → j < w.heap.size) (hm : w.heap.size + 4 ≤ m) : DropI pr nf nb g most d F w i W' := by
  obtain ⟨h1, h2, h3, h4, h5, h6⟩ := h
  exact ⟨h1.kept hB.size (fun j hj _ => hB.block j (by have := hFb j hj; omega)), Stay.more h2 (hB.mono (by omega)), h3.below2 hB (by omega), h4.below2 hB (by omega), h5.below2 hB (by omega), h6.below2 hB (by omega)⟩
theorem DropI.reads {pr : Row → Bool} {nf : Nat} {nb : Array Value} {g : Nat} {most : Int} {d : List Row} {F : Nat → Prop} {w W : World} {i : Nat} (h : DropI pr nf nb g most d F w i W) (hs : Str (keys d)) : Reads (w.heap.size + 1 + 1 + 1) g d i W :=
  ⟨h.2.2.2.2.2.cell 0, most, _, F, h.1, fun j h1 h2 => dropI_look hs h1 h2⟩
set_option maxRecDepth 100000 in
set_option maxHeartbeats 2000000 in
theorem drop_in (n : Nat) (hn : 3 ≤ n) (pr : Row → Bool) (nf : Nat) (nb : Array Value) (g : Nat) (most : Int) (d : List Row) (F : Nat → Prop) (w : World) (h : TabL w g most d F) (hFb : ∀ j, F j → j < w.heap.size) (hd : d.length ≤ 1000000)
    (eg : ∀ args w, (callFunc nf args).run Try.prog w = .ok (.enter nf args) w)
    (hf : ∀ i W, i < d.length → Stay F w W → Calls Try.prog nf (#[kval (rowAt d i).1, .int .i64 (rowAt d i).2] ++ nb) W fun e w' => e = .returned (.bool (pr (rowAt d i))) ∧ Gr W w') :
    CallsIn Fence.wide n Try.prog 23 #[.pointer (some ⟨g, 0, none⟩), .func (.func nf) #[] nb] w fun e w' => e = .returned (.int .i64 ((d.filter pr).length : Nat)) ∧ TabStay g most (d.filter (fun r => !pr r)) F w w' := by
  have h1 : 1 ≤ n := by omega
  have CA := Lib.hid (fun W => all_any (some ⟨g, 0, none⟩) W)
  refine callsIn_of_wp_marks Try.func23 rfl trivial ?_ rfl
  simp only [Try.ntmps23, List.size_toArray, List.length_cons, List.length_nil, Nat.reduceAdd, Nat.reduceSub, Array.replicate_succ, Array.replicate_zero, List.push_toArray, List.append_toArray, List.nil_append, List.cons_append]
  gi_wp2_with (refine ⟨trivial, ?_⟩; gi_at_call 16; refine (callsIn_wide.2 (CA.out _)).mono ?_; rintro e w' ⟨rfl, rfl⟩)
  obtain ⟨wL, hwL⟩ : ∃ wL, Hid (wL = (((w.alloc (.cells #[.pointer (some ⟨g, 0, none⟩)] 23)).alloc (.cells #[.func (.func nf) #[] nb] 57)).alloc (.cells #[.int .i64 0] 3)).alloc (.cells #[.pointer (some ⟨g, 0, none⟩)] 23)) := ⟨_, Lib.hid rfl⟩
  rw [← hwL.out]
  have hstr : Str (keys d) := by obtain ⟨mb, ov, -, -, -, h4, -⟩ := h; exact h4
  have hsz : wL.heap.size = w.heap.size + 4 := by rw [hwL.out]; simp [World.size_alloc]
  have hI0 : DropI pr nf nb g most d F w 0 wL := by
    have hB : Below w.heap.size w wL := by rw [hwL.out]; exact ((((Below.refl _ _).alloc (Nat.le_refl _) _).alloc (by simp) _).alloc (by simp; omega) _).alloc (by simp; omega) _
    refine ⟨h.below hB, Stay.of_below hB, ?_, ?_, ?_, ?_⟩
    · rw [hwL.out]; exact (((Blk.new w _ _).alloc _).alloc _).alloc _
    · rw [hwL.out]
      have := ((Blk.new (w.alloc (.cells #[.pointer (some ⟨g, 0, none⟩)] 23)) 57 #[.func (.func nf) #[] nb]).alloc (.cells #[.int .i64 0] 3)).alloc (.cells #[.pointer (some ⟨g, 0, none⟩)] 23)
      rwa [World.size_alloc] at this
    · rw [hwL.out]
      have := (Blk.new ((w.alloc (.cells #[.pointer (some ⟨g, 0, none⟩)] 23)).alloc (.cells #[.func (.func nf) #[] nb] 57)) 3 #[.int .i64 0]).alloc (.cells #[.pointer (some ⟨g, 0, none⟩)] 23)
      rwa [World.size_alloc, World.size_alloc] at this
    · rw [hwL.out]
      have := Blk.new (((w.alloc (.cells #[.pointer (some ⟨g, 0, none⟩)] 23)).alloc (.cells #[.func (.func nf) #[] nb] 57)).alloc (.cells #[.int .i64 0] 3)) 23 #[.pointer (some ⟨g, 0, none⟩)]
      rwa [World.size_alloc, World.size_alloc, World.size_alloc] at this
  refine Rng.wpIn_range (F := Fence.wide) rfl h1 (gf := 37) (lb := #[.pointer (some ⟨w.heap.size + 1 + 1 + 1, 0, none⟩)]) rfl trivial (enters_of Try.func37 (by kernel_rfl) rfl)
    (N := d.length) (encs := encR d) (I := DropI pr nf nb g most d F w) (Ix := fun _ _ => False) (fun _ => rfl)
    (fun i W W' hi hB => hi.below hB hFb (by omega)) (fun _ _ _ hi _ => hi) hI0
    (fun W hW hi => all1_iter (n - 1) (by omega) (w.heap.size + 1 + 1 + 1) g most d F _ W hd hi.1 (fun i W1 hi1 => hi1.reads hstr))
    (fun i W => { tmps := #[.pointer (some ⟨g, 0, none⟩), .func (.func nf) #[] nb, .pointer (some ⟨w.heap.size, 0, none⟩), .pointer (some ⟨w.heap.size + 1, 0, none⟩), .int .i64 0, .pointer (some ⟨w.heap.size + 1 + 1, 0, none⟩), .pointer (some ⟨W.heap.size, 0, none⟩), .int .i64 (rowAt d i).2,
      .pointer (some ⟨g, 0, none⟩), .func (.func 37) #[] #[.pointer (some ⟨w.heap.size + 1 + 1 + 1, 0, none⟩)], kval (rowAt d i).1, .int .i64 (rowAt d i).2, undef, undef, undef, undef, undef, undef, undef, undef, undef, undef, undef, undef], defers := [] })
    (fun i W => W.alloc (.cells #[.int .i64 (rowAt d i).1.1, .int .i64 (rowAt d i).1.2.1, .int .u32 (rowAt d i).1.2.2] 34)) (fun i W => box_below _ _) ?assign ?body ?done ?stop
  case assign =>
    intro l i W K hK
    unfold encR
    generalize rowAt d i = r at *
    obtain ⟨⟨p, q, s⟩, v⟩ := r
    unfold kval at *
    simp only at hK
    gi_wp2
    exact hK
  case body =>
    intro l i W W2 hiN hl1 hl2 hi hi2 hs2 hb2
    have hn2 : 1 ≤ n - 1 - 1 := by omega
    have hko : ok (rowAt d i).1 := by
      obtain ⟨mb, ov, -, -, -, -, -, -, s7⟩ := h
      refine s7 _ ?_
      rw [← keys_at d i hiN]
      exact getD_mem (by rw [keys_len]; exact hiN)
    have hLW : wL.heap.size ≤ W.heap.size := by omega
    have hs3 : W2.heap.size = W.heap.size + 1 := by rw [hs2, World.size_alloc]
    have bk : Blk W2 W.heap.size 34 #[.int .i64 (rowAt d i).1.1, .int .i64 (rowAt d i).1.2.1, .int .u32 (rowAt d i).1.2.2] := (hb2 _ (by omega)).trans (Blk.new W _ _)
    obtain ⟨t1, t2, t3, t4, t5, t6⟩ := hi2
    have CS := Lib.hid (says_any (rowAt d i).1 (rowAt d i).2 nf nb (pr (rowAt d i)) W2 eg (fun W' hG => hf i W' hiN (Stay.more t2 (hG.below.mono t2.size))))
    have CD : Hid (∀ w3, Gr W2 w3 → Calls Try.prog 20 #[.pointer (some ⟨g, 0, none⟩), kval (rowAt d i).1] w3 fun e w' => e = .returned (.bool true) ∧ TabStay g most (delD (dropI pr d i) (rowAt d i).1) F w3 w') := Lib.hid (fun w3 hG => by
      have hc := del_any (rowAt d i).1 hko g most (dropI pr d i) F w3 (t1.below hG.below) (Nat.le_trans (dropI_len pr d i) hd)
      rw [dropI_look hstr (Nat.le_refl _) hiN] at hc
      exact hc)
    have HBX : Hid (∀ w3, Gr W2 w3 → (w3.cell? ⟨W.heap.size, 0, none⟩ = some (.int .i64 (rowAt d i).1.1) ∧ w3.cell? ⟨W.heap.size, 1, none⟩ = some (.int .i64 (rowAt d i).1.2.1) ∧ w3.cell? ⟨W.heap.size, 2, none⟩ = some (.int .u32 (rowAt d i).1.2.2)) ∧
        w3.cell? ⟨w.heap.size, 0, none⟩ = some (.pointer (some ⟨g, 0, none⟩)) ∧ w3.cell? ⟨w.heap.size + 1, 0, none⟩ = some (.func (.func nf) #[] nb)) := Lib.hid (fun w3 hG => by
      have b := bk.below hG.below
      exact ⟨⟨b.cell 0, b.cell 1, b.cell 2⟩, (t3.below hG.below).cell 0, (t4.below hG.below).cell 0⟩)
    cases hp : pr (rowAt d i) with
    | false =>
      rw [hp] at CS
      have HP : Hid (∀ w3, Gr W2 w3 → Rng.KeepNew wL.heap.size W2 w3 ∧ DropI pr nf nb g most d F w (i + 1) w3) := Lib.hid (fun w3 hG => by
        have hB := hG.below
        refine ⟨keepnew_below hB, ?_⟩
        unfold DropI
        rw [dropI_no hiN hp, dropN_no hiN hp]
        exact ⟨t1.below hB, Stay.more t2 (hB.mono t2.size), t3.below hB, t4.below hB, t5.below hB, t6.below hB⟩)
      clear CD bk t1 t2 t3 t4 t5 t6 hi hb2 hko hp hs2
      generalize rowAt d i = r at *
      obtain ⟨⟨p, q, s⟩, v⟩ := r
      unfold kval at *
      obtain ⟨⟨c0, c1, c2⟩, c3, c4⟩ := HBX.out W2 (Gr.refl _)
      simp only at CS c0 c1 c2
      gi_wp2_with (refine ⟨trivial, ?_⟩; gi_at_call 40; refine (CallsIn.inRound l (callsIn_wide.2 CS.out)).mono ?_; rintro e w3 ⟨rfl, hG3⟩; have HG3 := Lib.hid hG3; clear hG3)
      refine ⟨trivial, ?_⟩
      gi_wp2
      exact HP.out w3 HG3.out
    | true =>
      rw [hp] at CS
      have HP : Hid (∀ w3 w4, Gr W2 w3 → TabStay g most (delD (dropI pr d i) (rowAt d i).1) F w3 w4 → (w4.cell? ⟨w.heap.size + 1 + 1, 0, none⟩ = some (.int .i64 (dropN pr d i : Nat)) ∧ w4.frozen? ⟨w.heap.size + 1 + 1, 0, none⟩ = false) ∧
          Rng.KeepNew wL.heap.size W2 (w4.setCell ⟨w.heap.size + 1 + 1, 0, none⟩ (.int .i64 ((dropN pr d i : Nat) + 1))) ∧ DropI pr nf nb g most d F w (i + 1) (w4.setCell ⟨w.heap.size + 1 + 1, 0, none⟩ (.int .i64 ((dropN pr d i : Nat) + 1)))) := Lib.hid (fun w3 w4 hG ht => by
        obtain ⟨ht1, ht2⟩ := ht
        have hB := hG.below
        have hn : ∀ j, w.heap.size ≤ j → ¬ F j := fun j hj e => by have := hFb j e; omega
        have b3 := (t3.below hB).stay ht2 (hn _ (Nat.le_refl _))
        have b4 := (t4.below hB).stay ht2 (hn _ (by omega))
        have b5 := (t5.below hB).stay ht2 (hn _ (by omega))
        have b6 := (t6.below hB).stay ht2 (hn _ (by omega))
        have hs4 := ht2.size
        have hsB := hB.size
        have hB4 : ∀ v, Below (w.heap.size + 2) w4 (w4.setCell ⟨w.heap.size + 1 + 1, 0, none⟩ v) := fun v => (Below.refl _ _).setCell (p := ⟨w.heap.size + 1 + 1, 0, none⟩) (Nat.le_refl _) v
        refine ⟨⟨b5.cell 0, b5.free 0⟩, ⟨Nat.le_trans hsB (Nat.le_trans hs4 (hB4 _).size), fun k hk hkl => ?_⟩, ?_⟩
        · rw [Below.heap_setCell _ _ _ _ (by show k ≠ w.heap.size + 1 + 1; omega), ht2.block k (by omega) (hn k (by omega)), hB.block k hkl]
        · unfold DropI
          rw [← dropI_yes hstr hiN hp, dropN_yes hiN hp]
          refine ⟨ht1.kept (hB4 _).size (fun j hj _ => (hB4 _).block j (by have := hFb j hj; omega)), ?_, b3.below2 (hB4 _) (by omega), b4.below2 (hB4 _) (by omega), b5.put 0 _, b6.far (by show w.heap.size + 1 + 1 + 1 ≠ w.heap.size + 1 + 1; omega) _⟩
          exact Stay.more (((Stay.more t2 (hB.mono t2.size))).snoc ht2 (fun j _ e => e)) ((hB4 _).mono (by omega)))
      have hN : (dropN pr d i : Nat) ≤ 1000000 := by
        unfold dropN
        have := List.length_filter_le pr (d.take i)
        rw [List.length_take] at this
        omega
      have hwN : IntKind.i64.wrap (((dropN pr d i : Nat) : Int) + 1) = ((dropN pr d i : Nat) : Int) + 1 := by rw [IntKind.wrap_i64]; omega
      clear bk t1 t2 t3 t4 t5 t6 hi hb2 hko hp hs2
      generalize dropN pr d i = m at *
      generalize delD (dropI pr d i) (rowAt d i).1 = d2 at *
      generalize rowAt d i = r at *
      obtain ⟨⟨p, q, s⟩, v⟩ := r
      unfold kval at *
      obtain ⟨⟨c0, c1, c2⟩, c3, c4⟩ := HBX.out W2 (Gr.refl _)
      simp only at CS CD HBX c0 c1 c2
      gi_wp2_with (first
        | (refine ⟨trivial, ?_⟩; gi_at_call 40; refine (CallsIn.inRound l (callsIn_wide.2 CS.out)).mono ?_; rintro e w3 ⟨rfl, hG3⟩; have HG3 := Lib.hid hG3; obtain ⟨⟨e0, e1, e2⟩, e3, e4⟩ := HBX.out w3 hG3; clear hG3)
        | (refine ⟨trivial, ?_⟩; gi_at_call 20; refine (CallsIn.inRound l (callsIn_wide.2 (CD.out w3 HG3.out))).mono ?_; rintro e w4 ⟨rfl, ht⟩; obtain ⟨⟨f0, f1⟩, hp2⟩ := HP.out w3 w4 HG3.out ht; have HP2 := Lib.hid hp2; clear ht hp2))
      exact HP2.out
  case done =>
    intro W hW hi hK
    obtain ⟨t1, t2, t3, t4, t5, t6⟩ := hi
    rw [dropI_all] at t1
    rw [dropN_all] at t5
    have c5 : W.cell? ⟨w.heap.size + 1 + 1, 0, none⟩ = some (.int .i64 ((d.filter pr).length : Nat)) := t5.cell 0
    have HP : Hid (TabStay g most (d.filter (fun r => !pr r)) F w (W.putObj wL.heap.size (.deferred none))) := Lib.hid (by
      have hB : Below wL.heap.size W (W.putObj wL.heap.size (.deferred none)) := Rng.below_put _ _ (Nat.le_refl _)
      exact ⟨t1.kept hB.size (fun j hj _ => hB.block j (by have := hFb j hj; omega)), Stay.more t2 (hB.mono (by omega))⟩)
    clear t1 t2 t3 t4 t5 t6
    gi_wp2
    refine ⟨by simp, .inl ⟨_, _, rfl, run_takeDeferred hK, ?_⟩⟩
    exact ⟨_, results_tmp rfl _ _ _, rfl, HP.out⟩
  case stop =>
    intro c W _ hi _
    exact hi.elim
theorem drop_any (pr : Row → Bool) (nf : Nat) (nb : Array Value) (g : Nat) (most : Int) (d : List Row) (F : Nat → Prop) (w : World) (h : TabL w g most d F) (hFb : ∀ j, F j → j < w.heap.size) (hd : d.length ≤ 1000000)
    (eg : ∀ args w, (callFunc nf args).run Try.prog w = .ok (.enter nf args) w)
    (hf : ∀ i W, i < d.length → Stay F w W → Calls Try.prog nf (#[kval (rowAt d i).1, .int .i64 (rowAt d i).2] ++ nb) W fun e w' => e = .returned (.bool (pr (rowAt d i))) ∧ Gr W w') :
    Calls Try.prog 23 #[.pointer (some ⟨g, 0, none⟩), .func (.func nf) #[] nb] w fun e w' => e = .returned (.int .i64 ((d.filter pr).length : Nat)) ∧ TabStay g most (d.filter (fun r => !pr r)) F w w' :=
  callsIn_wide.1 (drop_in 3 (Nat.le_refl _) pr nf nb g most d F w h hFb hd eg hf)
end Go.Proofs.Ytolcidilnmjlmaa.TblL
