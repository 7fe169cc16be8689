/- Contracts of package table (layer 7): Put, Del, Clear. -/
import Derived.Test.YtolcidilnmjlmaaTblI
namespace Go.Proofs.Ytolcidilnmjlmaa.TblL
open Go.ChangeShapes Go.WideShapes Go.ChangeAt Go.RowKit Go.Sort
open Go.Proofs.Ytolcidilnmjlmaa.Key Go.Proofs.Ytolcidilnmjlmaa.Rw Go.Proofs.Ytolcidilnmjlmaa.Tbl
set_option linter.unusedVariables false
set_option linter.unusedSimpArgs false
/-- A step on a table: what it is behind it, and what was touched. -/
def TabPost (g : Nat) (most : Int) (d : List Row) (F : Nat → Prop) (w w' : World) : Prop := TabL w' g most d (Ext F w w') ∧ Stay F w w'
/-- The same, where nothing new has come to the table. -/
def TabStay (g : Nat) (most : Int) (d : List Row) (F : Nat → Prop) (w w' : World) : Prop := TabL w' g most d F ∧ Stay F w w'
theorem TabStay.post {g : Nat} {most : Int} {d : List Row} {F : Nat → Prop} {w w' : World} (h : TabStay g most d F w w') : TabPost g most d F w w' := ⟨h.1.mono (fun j hj => .inl hj), h.2⟩
theorem TabStay.same {g : Nat} {most : Int} {d : List Row} {F : Nat → Prop} {w w' : World} (h : TabL w g most d F) (hB : Below w.heap.size w w') : TabStay g most d F w w' :=
  ⟨h.below hB, Stay.of_below hB⟩
theorem TabPost.same {g : Nat} {most : Int} {d : List Row} {F : Nat → Prop} {w w' : World} (h : TabL w g most d F) (hB : Below w.heap.size w w') : TabPost g most d F w w' :=
  ⟨(h.below hB).mono (fun j hj => .inl hj), Stay.of_below hB⟩
def putE (most : Int) (d : List Row) (k : Ky) : Int := if (lookR d k).isSome then 12 else if most - (d.length : Int) = 0 then 13 else 0
def putD (most : Int) (d : List Row) (k : Ky) (v : Int) : List Row := if (lookR d k).isSome then d else if most - (d.length : Int) = 0 then d else putR d k v
/-- The map is put into, the line grows. -/
theorem put_line {g mb : Nat} {most : Int} {d : List Row} {F : Nat → Prop} {w w2 w3 w4 : World} {k : Ky} {v : Int} (hk : ok k) (hd : ∀ x ∈ keys d, ok x) (hs : Str (keys d)) (hn : lookR d k = none) (hF : F g) (hFm : F mb)
    (hB : Below w.heap.size w w2) (hmw : mb < w.heap.size) (hgr : w2.drew.grownBy w3 (some mb)) (hI : Tb.Is Try.prog 34 kval w3 mb (d.length + 1) (Tb.upd (vof d) k (.int .i64 v)))
    {e : Ending} (hL : LinePost g (.int .i64 most) (.map (some mb)) (insP (keys d) k) (fun j => F j ∧ j ≠ mb) w3 e w4) : e = .returned (.tuple #[]) ∧ TabPost g most (putR d k v) F w w4 := by
  obtain ⟨he, ov', h1, h2, h3⟩ := hL
  have hs3 := hgr.size
  have hs2 := hB.size
  have hst : Stay F w w4 := by
    have a1 : Stay F w w3 := (Stay.of_below (F := F) hB.drew).snoc (Stay.of_grown (F := fun j => j = mb) hgr (fun j e => by simpa using e.symm)) (fun j _ e => by rw [e]; exact hFm)
    exact a1.snoc h3 (fun j _ e => e.1)
  refine ⟨he, ⟨mb, ov', h1, ?_, ?_, ?_, .inl hF, .inl hFm, ?_⟩, hst⟩
  · have h4 := hI.of_block (w' := w4) (h3.block mb hI.lt (fun e => e.2 rfl))
    rw [put_len]
    refine h4.congr (fun y => ?_)
    unfold Tb.upd vof
    rw [lookR_put hn]
    split <;> rfl
  · rw [keys_put]
    refine h2.mono (fun j hj => ?_)
    rcases hj with hj | ⟨hj1, hj2⟩
    · exact .inl hj.1
    · exact .inr ⟨by have : w2.heap.size ≤ w3.heap.size := hs3; omega, hj2⟩
  · rw [keys_put]; exact str_insP hs (lookR_none.1 hn)
  · rw [keys_put]
    intro x hx
    unfold insP at hx
    rcases List.mem_append.1 hx with h | h
    · exact hd x (List.mem_of_mem_take h)
    · rcases List.mem_cons.1 h with rfl | h
      · exact hk
      · exact hd x (List.mem_of_mem_drop h)
/-- The line lies in no map. -/
theorem Ord.noMap {w : World} {F : Nat → Prop} {ov : Value} {ks : List Ky} {mb : Nat} {es : Array MapEntry} {c : Nat} (h : Ord w ov ks F) (hm : w.heap[mb]? = some (.map es c)) : Ord w ov ks (fun j => F j ∧ j ≠ mb) := by
  rcases h with h | ⟨hne, ob, oc, pb, pc, rfl, h1, h2, h3, h4⟩
  · exact .inl h
  · obtain ⟨cur, a1, -⟩ := row_of h1
    obtain ⟨cur2, b1, -⟩ := row_of h2
    refine .inr ⟨hne, ob, oc, pb, pc, rfl, h1, h2, ⟨h3, fun e => ?_⟩, ⟨h4, fun e => ?_⟩⟩
    · subst e; have := a1.symm.trans hm; simp at this
    · subst e; have := b1.symm.trans hm; simp at this
theorem put_any (k : Ky) (v : Int) (hk : ok k) (g : Nat) (most : Int) (d : List Row) (F : Nat → Prop) (w : World) (h : TabL w g most d F) (hm : 0 ≤ most ∧ most ≤ 65536) (hd : d.length ≤ 255) :
    Calls Try.prog 12 #[.pointer (some ⟨g, 0, none⟩), kval k, .int .i64 v] w fun e w' => e = .returned (.int .i64 (putE most d k)) ∧ TabPost g most (putD most d k v) F w w' := by
  obtain ⟨w0, hw0⟩ : ∃ w0, Hid (w0 = w.alloc (.cells #[.int .i64 k.1, .int .i64 k.2.1, .int .u32 k.2.2] 34)) := ⟨_, Lib.hid rfl⟩
  have hX : Rw.At enc w0 w.heap.size 0 k := by rw [hw0.out]; exact Rw.At.box w k _ rfl
  have hG0 : Gr w w0 := by rw [hw0.out]; exact (Gr.refl w).alloc _
  have hsz : w.heap.size < w0.heap.size := by rw [hw0.out, World.size_alloc]; omega
  have h0 := h.below hG0.below
  have CH : Hid (Calls Try.prog 33 #[.pointer (some ⟨g, 0, none⟩), kval k] w0 fun e w' => e = .returned (.bool (lookR d k).isSome) ∧ Gr w0 w') := Lib.hid (has_any k hk g most d F w0 h0)
  have CR : Hid (∀ W, Gr w0 W → Calls Try.prog 22 #[.pointer (some ⟨g, 0, none⟩)] W fun e w' => e = .returned (.int .i64 (most - (d.length : Nat))) ∧ Gr w0 w') := Lib.hid (fun W hW => (room_any g most d F W (h0.below hW.below) hm (by omega)).mono fun e w' hh => ⟨hh.1, hW.trans hh.2⟩)
  have HG0 := Lib.hid hG0
  have HX : Hid (∀ W, Gr w0 W → W.cell? ⟨w.heap.size, 0, none⟩ = some (.int .i64 k.1) ∧ W.cell? ⟨w.heap.size, 1, none⟩ = some (.int .i64 k.2.1) ∧ W.cell? ⟨w.heap.size, 2, none⟩ = some (.int .u32 k.2.2)) := Lib.hid (fun W hW => by
    have h3 := at3 (hX.below hW.below hsz)
    simp only [Nat.zero_add] at h3
    exact h3)
  have HS : Hid (∀ w', Gr w0 w' → TabPost g most d F w w') := Lib.hid (fun w' hW => TabPost.same h (hG0.trans hW).below)
  cases hl : (lookR d k).isSome with
  | true =>
    have he : putE most d k = 12 := by unfold putE; rw [hl]; rfl
    have hp : putD most d k v = d := by unfold putD; rw [hl]; rfl
    rw [he, hp]
    rw [hl] at CH
    obtain ⟨c0, c1, c2⟩ := HX.out w0 (Gr.refl _)
    clear hX hG0 h0 h hl CR he hp hk
    obtain ⟨p, q, s⟩ := k
    unfold kval at *
    simp only at hw0 c0 c1 c2
    go_enter Try.func12, Try.ntmps12
    go_upto_region 1 with fail
    rw [← hw0.out]
    go_wp2_with fail
    refine (CH.out).mono ?_; rintro e w1 ⟨rfl, hG1⟩
    have HP := Lib.hid (HS.out w1 hG1)
    clear hG1 c0 c1 c2
    go_wp2_with fail
    go_ret
    exact ⟨rfl, HP.out⟩
  | false =>
    rw [hl] at CH
    obtain ⟨c0, c1, c2⟩ := HX.out w0 (Gr.refl _)
    by_cases hr : most - (d.length : Int) = 0
    · have he : putE most d k = 13 := by unfold putE; rw [hl, if_neg (by simp), if_pos hr]
      have hp : putD most d k v = d := by unfold putD; rw [hl, if_neg (by simp), if_pos hr]
      rw [he, hp]
      rw [hr] at CR
      clear hX hG0 h0 h hl he hp hk hr
      obtain ⟨p, q, s⟩ := k
      unfold kval at *
      simp only at hw0 c0 c1 c2
      go_enter Try.func12, Try.ntmps12
      go_upto_region 1 with fail
      rw [← hw0.out]
      go_wp2_with fail
      refine (CH.out).mono ?_; rintro e w1 ⟨rfl, hG1⟩
      have CRk := Lib.hid (CR.out w1 hG1)
      clear hG1 c0 c1 c2
      go_wp2_with fail
      refine (CRk.out).mono ?_; rintro e w2 ⟨rfl, hG2⟩
      have HP := Lib.hid (HS.out w2 hG2)
      clear hG2
      go_wp2_with fail
      go_ret
      exact ⟨rfl, HP.out⟩
    · have he : putE most d k = 0 := by unfold putE; rw [hl, if_neg (by simp), if_neg hr]
      have hp : putD most d k v = putR d k v := by unfold putD; rw [hl, if_neg (by simp), if_neg hr]
      rw [he, hp]
      have hn : lookR d k = none := by cases e : lookR d k with | none => rfl | some v => rw [e] at hl; simp at hl
      obtain ⟨kl, hkl⟩ := key_read k hk
      obtain ⟨mb, ov, t1, t2, t3, t4, t5, t6, t7⟩ := h
      -- from whatever world that grew: the map's step, then the line's
      have HU : Hid (∀ w2, Gr w0 w2 → ∃ w3, (Instr.mapUpdate 58 (.map (some mb)) (kval k) (.int .i64 v)).run Try.prog w2.drew = .ok () w3 ∧
          (w3.cell? ⟨w.heap.size, 0, none⟩ = some (.int .i64 k.1) ∧ w3.cell? ⟨w.heap.size, 1, none⟩ = some (.int .i64 k.2.1) ∧ w3.cell? ⟨w.heap.size, 2, none⟩ = some (.int .u32 k.2.2)) ∧
          Calls Try.prog 34 #[.pointer (some ⟨g, 0, none⟩), kval k] w3 fun e w' => e = .returned (.tuple #[]) ∧ TabPost g most (putR d k v) F w w') := Lib.hid (fun w2 hG => by
        have hB := (hG0.trans hG).below
        have i2 : Tb.Is Try.prog 34 kval w2.drew mb d.length (vof d) := (t2.below hB).of_block rfl
        obtain ⟨w3, e3, hg3, i3⟩ := i2.put lawK kval_inj Try.underlying58 (by unfold maxLen; omega) hkl (by unfold vof; rw [hn]; rfl) (.int .i64 v)
        have hmb := t2.lt
        have hx := HX.out w2 hG
        refine ⟨w3, e3, ⟨hg3.cell (w := w2.drew) hx.1 (by simp; omega), hg3.cell (w := w2.drew) hx.2.1 (by simp; omega), hg3.cell (w := w2.drew) hx.2.2 (by simp; omega)⟩, ?_⟩
        obtain ⟨es, cl, hes, -⟩ := t2
        have hne : g ≠ mb := fun e => by subst e; have := t1.symm.trans hes; simp at this
        have b3 : Blk w3 g 61 #[.int .i64 most, .map (some mb), ov] := Blk.grown (w := w2.drew) (t1.below hB.drew) hg3 (by simpa using hne)
        have hs3 := hg3.size
        have hs2 := hB.size
        have o3 : Ord w3 ov (keys d) (fun j => F j ∧ j ≠ mb) := (Ord.noMap t3 hes).kept (Nat.le_trans hs2 hs3) (fun j hj hjl => (hg3.block j (by show j < w2.heap.size; omega) (by simpa using hj.2)).trans (hB.block j hjl))
        refine (enter_any k g (fun j => F j ∧ j ≠ mb) (.int .i64 most) (.map (some mb)) ov (keys d) w3 (by rw [keys_len]; exact hd) t4 b3 o3 ⟨t5, hne⟩).mono fun e w4 hL => ?_
        exact put_line hk t7 t4 hn t5 t6 hB hmb hg3 i3 hL)
      have HC1 : Hid (∀ W, Gr w0 W → W.cell? ⟨g, 1, none⟩ = some (.map (some mb))) := Lib.hid (fun W hW => by have := (t1.below (hG0.trans hW).below).cell 1; simpa using this)
      have hr' : ((most - (d.length : Int)) == 0) = false := by simpa using hr
      clear hX hG0 h0 hl he hp hk hn hkl t1 t2 t3 t4 t5 t6 t7 hr
      generalize most - (d.length : Int) = r at *
      obtain ⟨p, q, s⟩ := k
      unfold kval at *
      simp only at hw0 c0 c1 c2 HX HU
      go_enter Try.func12, Try.ntmps12
      go_upto_region 1 with fail
      rw [← hw0.out]
      go_wp2_with fail
      refine (CH.out).mono ?_; rintro e w1 ⟨rfl, hG1⟩
      have CRk := Lib.hid (CR.out w1 hG1)
      clear hG1 c0 c1 c2
      go_wp2_with fail
      refine (CRk.out).mono ?_; rintro e w2 ⟨rfl, hG2⟩
      obtain ⟨w3, e3, ⟨d0, d1, d2⟩, CE⟩ := HU.out w2 hG2
      obtain ⟨c0, c1, c2⟩ := HX.out w2 hG2
      have c3 := HC1.out w2 hG2
      have CE := Lib.hid CE
      clear hG2 HU HX HC1 CR CRk HS
      go_wp2_with fail
      go_region
      go_wp2_with fail
      refine (CE.out).mono ?_; rintro e w4 ⟨rfl, hp⟩
      have HPP := Lib.hid hp
      clear hp
      go_wp2_with fail
      go_ret
      exact ⟨rfl, HPP.out⟩
def delD (d : List Row) (k : Ky) : List Row := if (lookR d k).isSome then delR d (pos (keys d) k) else d
theorem del_line {g mb : Nat} {most : Int} {d : List Row} {F : Nat → Prop} {w w2 w3 w4 : World} {k : Ky} (hd : ∀ x ∈ keys d, ok x) (hs : Str (keys d)) (hn : k ∈ keys d) (hF : F g) (hFm : F mb)
    (hB : Below w.heap.size w w2) (hmw : mb < w.heap.size) (hgr : w2.drew.grownBy w3 (some mb)) (hI : Tb.Is Try.prog 34 kval w3 mb (d.length - 1) (Tb.del (vof d) k))
    {e : Ending} (hL : LineStay g (.int .i64 most) (.map (some mb)) (delP (keys d) (pos (keys d) k)) (fun j => F j ∧ j ≠ mb) w3 e w4) : e = .returned (.tuple #[]) ∧ TabStay g most (delR d (pos (keys d) k)) F w w4 := by
  obtain ⟨he, ov', h1, h2, h3⟩ := hL
  have hs3 := hgr.size
  have hs2 := hB.size
  obtain ⟨p1, p2⟩ := pos_at hs hn
  rw [keys_len] at p1
  have hst : Stay F w w4 := by
    have a1 : Stay F w w3 := (Stay.of_below (F := F) hB.drew).snoc (Stay.of_grown (F := fun j => j = mb) hgr (fun j e => by simpa using e.symm)) (fun j _ e => by rw [e]; exact hFm)
    exact a1.snoc h3 (fun j _ e => e.1)
  refine ⟨he, ⟨mb, ov', h1, ?_, ?_, ?_, hF, hFm, ?_⟩, hst⟩
  · have h4 := hI.of_block (w' := w4) (h3.block mb hI.lt (fun e => e.2 rfl))
    rw [del_len p1]
    refine h4.congr (fun y => ?_)
    unfold Tb.del vof
    rw [lookR_del hs p1, p2]
    split <;> rfl
  · rw [keys_del]
    exact h2.mono (fun j hj => hj.1)
  · rw [keys_del]; exact str_delP hs _
  · rw [keys_del]
    intro x hx
    unfold delP at hx
    rcases List.mem_append.1 hx with h | h
    · exact hd x (List.mem_of_mem_take h)
    · exact hd x (List.mem_of_mem_drop h)
theorem del_any (k : Ky) (hk : ok k) (g : Nat) (most : Int) (d : List Row) (F : Nat → Prop) (w : World) (h : TabL w g most d F) (hd : d.length ≤ 1000000) :
    Calls Try.prog 20 #[.pointer (some ⟨g, 0, none⟩), kval k] w fun e w' => e = .returned (.bool (lookR d k).isSome) ∧ TabStay g most (delD d k) F w w' := by
  obtain ⟨w0, hw0⟩ : ∃ w0, Hid (w0 = w.alloc (.cells #[.int .i64 k.1, .int .i64 k.2.1, .int .u32 k.2.2] 34)) := ⟨_, Lib.hid rfl⟩
  have hX : Rw.At enc w0 w.heap.size 0 k := by rw [hw0.out]; exact Rw.At.box w k _ rfl
  have hG0 : Gr w w0 := by rw [hw0.out]; exact (Gr.refl w).alloc _
  have hsz : w.heap.size < w0.heap.size := by rw [hw0.out, World.size_alloc]; omega
  have h0 := h.below hG0.below
  have CH : Hid (Calls Try.prog 33 #[.pointer (some ⟨g, 0, none⟩), kval k] w0 fun e w' => e = .returned (.bool (lookR d k).isSome) ∧ Gr w0 w') := Lib.hid (has_any k hk g most d F w0 h0)
  have HX : Hid (∀ W, Gr w0 W → W.cell? ⟨w.heap.size, 0, none⟩ = some (.int .i64 k.1) ∧ W.cell? ⟨w.heap.size, 1, none⟩ = some (.int .i64 k.2.1) ∧ W.cell? ⟨w.heap.size, 2, none⟩ = some (.int .u32 k.2.2)) := Lib.hid (fun W hW => by
    have h3 := at3 (hX.below hW.below hsz)
    simp only [Nat.zero_add] at h3
    exact h3)
  have HS : Hid (∀ w', Gr w0 w' → TabStay g most d F w w') := Lib.hid (fun w' hW => TabStay.same h (hG0.trans hW).below)
  cases hl : (lookR d k).isSome with
  | false =>
    have hp : delD d k = d := by unfold delD; rw [hl]; rfl
    rw [hp]
    rw [hl] at CH
    obtain ⟨c0, c1, c2⟩ := HX.out w0 (Gr.refl _)
    clear hX hG0 h0 h hl hp hk
    obtain ⟨p, q, s⟩ := k
    unfold kval at *
    simp only at hw0 c0 c1 c2
    go_enter Try.func20, Try.ntmps20
    go_upto_region 1 with fail
    rw [← hw0.out]
    go_wp2_with fail
    refine (CH.out).mono ?_; rintro e w1 ⟨rfl, hG1⟩
    have HP := Lib.hid (HS.out w1 hG1)
    clear hG1 c0 c1 c2
    go_wp2_with fail
    go_ret
    exact ⟨rfl, HP.out⟩
  | true =>
    rw [hl] at CH
    obtain ⟨c0, c1, c2⟩ := HX.out w0 (Gr.refl _)
    have hp : delD d k = delR d (pos (keys d) k) := by unfold delD; rw [hl]; rfl
    rw [hp]
    have hn : k ∈ keys d := by
      refine Classical.byContradiction fun hc => ?_
      rw [lookR_none.2 hc] at hl
      simp at hl
    obtain ⟨kl, hkl⟩ := key_read k hk
    obtain ⟨mb, ov, t1, t2, t3, t4, t5, t6, t7⟩ := h
    obtain ⟨v0, hv0⟩ := vof_keys hn
    have HU : Hid (∀ w2, Gr w0 w2 → ∃ w3, (Builtin.delete_ #[58, 34] 0 #[.map (some mb), kval k]).run Try.prog w2.drew = .ok (.tuple #[]) w3 ∧
        (w3.cell? ⟨w.heap.size, 0, none⟩ = some (.int .i64 k.1) ∧ w3.cell? ⟨w.heap.size, 1, none⟩ = some (.int .i64 k.2.1) ∧ w3.cell? ⟨w.heap.size, 2, none⟩ = some (.int .u32 k.2.2)) ∧
        Calls Try.prog 39 #[.pointer (some ⟨g, 0, none⟩), kval k] w3 fun e w' => e = .returned (.tuple #[]) ∧ TabStay g most (delR d (pos (keys d) k)) F w w') := Lib.hid (fun w2 hG => by
      have hB := (hG0.trans hG).below
      have i2 : Tb.Is Try.prog 34 kval w2.drew mb d.length (vof d) := (t2.below hB).of_block rfl
      obtain ⟨w3, e3, hg3, i3⟩ := i2.drop lawK kval_inj Try.underlying58 hkl hv0 0
      have hmb := t2.lt
      have hx := HX.out w2 hG
      refine ⟨w3, e3, ⟨hg3.cell (w := w2.drew) hx.1 (by simp; omega), hg3.cell (w := w2.drew) hx.2.1 (by simp; omega), hg3.cell (w := w2.drew) hx.2.2 (by simp; omega)⟩, ?_⟩
      obtain ⟨es, cl, hes, -⟩ := t2
      have hne : g ≠ mb := fun e => by subst e; have := t1.symm.trans hes; simp at this
      have b3 : Blk w3 g 61 #[.int .i64 most, .map (some mb), ov] := Blk.grown (w := w2.drew) (t1.below hB.drew) hg3 (by simpa using hne)
      have hs3 := hg3.size
      have hs2 := hB.size
      have o3 : Ord w3 ov (keys d) (fun j => F j ∧ j ≠ mb) := (Ord.noMap t3 hes).kept (Nat.le_trans hs2 hs3) (fun j hj hjl => (hg3.block j (by show j < w2.heap.size; omega) (by simpa using hj.2)).trans (hB.block j hjl))
      refine (leave_any k g (fun j => F j ∧ j ≠ mb) (.int .i64 most) (.map (some mb)) ov (keys d) w3 hn (by rw [keys_len]; exact hd) t4 b3 o3 ⟨t5, hne⟩).mono fun e w4 hL => ?_
      exact del_line t7 t4 hn t5 t6 hB hmb hg3 i3 hL)
    have HC1 : Hid (∀ W, Gr w0 W → W.cell? ⟨g, 1, none⟩ = some (.map (some mb))) := Lib.hid (fun W hW => by have := (t1.below (hG0.trans hW).below).cell 1; simpa using this)
    clear hX hG0 h0 hl hp hk hn hkl t1 t2 t3 t4 t5 t6 t7 hv0
    obtain ⟨p, q, s⟩ := k
    unfold kval at *
    simp only at hw0 c0 c1 c2 HX HU
    go_enter Try.func20, Try.ntmps20
    go_upto_region 1 with fail
    rw [← hw0.out]
    go_wp2_with fail
    refine (CH.out).mono ?_; rintro e w1 ⟨rfl, hG1⟩
    obtain ⟨w3, e3, ⟨d0, d1, d2⟩, CE⟩ := HU.out w1 hG1
    clear c0 c1 c2
    obtain ⟨c0, c1, c2⟩ := HX.out w1 hG1
    have c3 := HC1.out w1 hG1
    have CE := Lib.hid CE
    clear hG1 HU HX HC1 HS
    go_wp2_with fail
    go_region_law (refine step_builtin1 rfl _ _ 58 34 rfl _ _ ?_ ?_ e3 ?_; (focus (simp [Act.eval, Act.put])); (focus (simp [Act.eval, Act.put])))
    all_goals
      go_wp2_with fail
      refine (CE.out).mono ?_; rintro e w4 ⟨rfl, hp⟩
      have HPP := Lib.hid hp
      clear hp
      go_wp2_with fail
      go_ret
      exact ⟨rfl, HPP.out⟩
theorem clear_any (g : Nat) (most : Int) (d : List Row) (F : Nat → Prop) (w : World) (h : TabL w g most d F) :
    Calls Try.prog 17 #[.pointer (some ⟨g, 0, none⟩)] w fun e w' => e = .returned (.tuple #[]) ∧ TabStay g most [] F w w' := by
  obtain ⟨mb, ov, t1, t2, t3, t4, t5, t6, t7⟩ := h
  obtain ⟨w3, e3, hg3, i3⟩ := t2.clear Try.underlying58 0
  obtain ⟨es, cl, hes, -⟩ := t2
  have hne : g ≠ mb := fun e => by subst e; have := t1.symm.trans hes; simp at this
  have b3 : Blk w3 g 61 #[.int .i64 most, .map (some mb), ov] := t1.grown hg3 (by simpa using hne)
  have c1 : w.cell? ⟨g, 1, none⟩ = some (.map (some mb)) := t1.cell 1
  have c2 : w3.cell? ⟨g, 2, none⟩ = some ov := b3.cell 2
  have f2 := b3.free 2
  have HP : Hid (TabStay g most [] F w (w3.setCell ⟨g, 2, none⟩ (.slice none 0 0))) := Lib.hid (by
    have st : Stay F w (w3.setCell ⟨g, 2, none⟩ (.slice none 0 0)) := (Stay.of_grown (F := F) hg3 (fun k e => by cases e; exact t6)).snoc (Stay.of_grown (F := fun j => j = g) (setCell_grown w3 g 2 _) (fun j e => by simpa using e.symm)) (fun j _ e => by rw [e]; exact t5)
    refine ⟨⟨mb, _, b3.put 2 _, ?_, .inl ⟨rfl, none, 0, rfl⟩, List.Pairwise.nil, t5, t6, by simp [keys]⟩, st⟩
    refine (i3.kept (setCell_grown w3 g 2 _) (by simpa using fun e => hne e.symm)).congr (fun y => ?_)
    unfold vof lookR; rfl)
  clear t1 t3 t4 t5 t6 t7 hes b3 i3 hg3
  go_enter Try.func17, Try.ntmps17
  go_wp2_with (at_builtin; refine wpList_clear_runK _ rfl _ 58 rfl _ rfl e3 ?_)
  go_end0
  exact ⟨rfl, HP.out⟩
end Go.Proofs.Ytolcidilnmjlmaa.TblL
