/- The agenda and the document's own, side by side (layer 8). -/
import Derived.Test.YtliblcjfccijjaaAgdJ
import Derived.Test.YtliblcjfccijjaaAgdY
namespace Go.Proofs.Ytliblcjfccijjaa.AgdL
open Go.ChangeShapes Go.WideShapes Go.ChangeAt Go.RowKit
open Go.Proofs.Ytliblcjfccijjaa.Rw Go.Proofs.Ytliblcjfccijjaa.Agd
open Go.Proofs.Ytliblcjfccijjaa.AgdR (encW encW_len RdR OwnR aval at2)
set_option linter.unusedVariables false
set_option linter.unusedSimpArgs false
theorem tl_len (l : List Th) (now : Int) : (tl l now).length ≤ l.length := by
  unfold tl; split
  · exact tk_len_le l
  · exact Nat.le_refl _
theorem room_drew (g : Nat) (most : Int) (add : Nat) (l : List Th) (F : Nat → Prop) (w : World) (h : AgL w g most add l F) (hm : 0 ≤ most ∧ most ≤ 65536) (hN : l.length ≤ 1000000) :
    Calls Try.prog 38 #[.pointer (some ⟨g, 0, none⟩)] w fun e w' => e = .returned (.int .i64 (most - (l.length : Nat))) ∧ w' = w.drew := by
  obtain ⟨ad, cap, c0, c2⟩ := h.cells
  have hw1 : IntKind.i64.wrap (most - (l.length : Int)) = most - (l.length : Int) := by rw [IntKind.wrap_i64]; omega
  clear h
  generalize l.length = n at *
  go_enter Try.func38, Try.ntmps38
  go_wp2_with fail
  go_region
  go_wp2_with fail
  go_ret
  exact ⟨rfl, rfl⟩
theorem quiet_same {P : Program} {f : FuncId} {args : Array Value} {w : World} {n : Nat} {v : Value}
    (h : Calls P f args (w.drewN n) fun e w' => e = .returned v ∧ w.drewN n = w') : Calls P f args (w.drewN n) fun e w'' => e = .returned v ∧ ∃ m, w'' = w.drewN m :=
  h.mono fun _ _ ⟨he, hm⟩ => ⟨he, n, hm.symm⟩
theorem quiet_drew {P : Program} {f : FuncId} {args : Array Value} {w : World} {n : Nat} {v : Value}
    (h : Calls P f args (w.drewN n) fun e w' => e = .returned v ∧ w' = (w.drewN n).drew) : Calls P f args (w.drewN n) fun e w'' => e = .returned v ∧ ∃ m, w'' = w.drewN m :=
  h.mono fun _ _ ⟨he, hm⟩ => ⟨he, n + 1, hm⟩
/-- A list that lies aside of the agenda's blocks and of the box. -/
structure Lst (F : Nat → Prop) (e : Nat) (W : World) (l : List Th) (ad : Option Addr) (cap : Nat) : Prop where
  rd : RdR W ad l
  cap1 : l.length ≤ cap
  cap2 : cap ≤ 9223372036854775807
  nil : ad = none → cap = 0
  off : ∀ x, ad = some x → x.block < W.heap.size ∧ ¬ F x.block ∧ x.block ≠ e
structure PairF (B : World) (g : Nat) (M : Int) (add : Nat) (d l : List Th) (ad : Option Addr) (cap e : Nat) (W : World) (F : Nat → Prop) : Prop where
  ag : AgL W g M add d F
  bound : ∀ j, F j → B.heap.size ≤ j ∧ j < W.heap.size
  made : Below B.heap.size B W
  lst : Lst F e W l ad cap
  box : Blk W e 57 #[.slice ad l.length cap, .int .i64 M]
  offE : ¬ F e
  baseE : B.heap.size ≤ e
/-- Both tell the same. -/
def Pair (B : World) (g : Nat) (M : Int) (add : Nat) (d : List Th) (ad : Option Addr) (cap e : Nat) (W : World) : Prop := ∃ F, PairF B g M add d d ad cap e W F
theorem rdR_same {W W' : World} {ad : Option Addr} {l : List Th} (h : RdR W ad l) (hs : W.heap.size ≤ W'.heap.size) (hb : ∀ x, ad = some x → W'.heap[x.block]? = W.heap[x.block]?) : RdR W' ad l := by
  rcases h with rfl | ⟨b, off, e, hb', hc⟩
  · exact .inl rfl
  · refine .inr ⟨b, off, e, Nat.lt_of_lt_of_le hb' hs, fun i hi j u hu => ?_⟩
    rw [← hc i hi j u hu]
    have := hb _ e
    simp only at this
    unfold World.cell?
    rw [this]
section
variable {B W W' : World} {g e cap : Nat} {M : Int} {add : Nat} {d l : List Th} {ad : Option Addr} {F : Nat → Prop}
theorem Lst.below (h : Lst F e W l ad cap) (hB : Below W.heap.size W W') : Lst F e W' l ad cap := by
  have hs := hB.size
  exact ⟨h.rd.below hB, h.cap1, h.cap2, h.nil, fun x e1 => by have := h.off x e1; exact ⟨by omega, this.2⟩⟩
theorem PairF.below (h : PairF B g M add d l ad cap e W F) (hB : Below W.heap.size W W') : PairF B g M add d l ad cap e W' F := by
  have hs := hB.size
  exact ⟨h.ag.below hB, fun j hj => by have := h.bound j hj; omega, h.made.trans (hB.mono h.made.size), h.lst.below hB, h.box.below hB, h.offE, h.baseE⟩
theorem PairF.post (h : PairF B g M add d l ad cap e W F) {add' : Nat} {d' : List Th} (hp : AgPost g M add' d' F W W') : PairF B g M add' d' l ad cap e W' (Ext F W W') := by
  obtain ⟨p1, p2⟩ := hp
  have hs := p2.size
  have hs3 := h.made.size
  have hE := h.box.lt
  have hx : ∀ b, b < W.heap.size → ¬ F b → ¬ Ext F W W' b := fun b h1 h2 h3 => h3.elim h2 (fun h4 => by omega)
  refine ⟨p1, fun j hj => ?_, h.made.trans (p2.below (fun j hj => (h.bound j hj).1) hs3), ⟨rdR_same h.lst.rd hs (fun x e1 => p2.block _ (h.lst.off x e1).1 (h.lst.off x e1).2.1), h.lst.cap1, h.lst.cap2, h.lst.nil, fun x e1 => ⟨by have := (h.lst.off x e1).1; omega, hx _ (h.lst.off x e1).1 (h.lst.off x e1).2.1, (h.lst.off x e1).2.2⟩⟩, h.box.stay p2 h.offE, hx _ hE h.offE, h.baseE⟩
  rcases hj with hj | hj
  · have := h.bound j hj; omega
  · omega
theorem PairF.stay (h : PairF B g M add d l ad cap e W F) {add' : Nat} {d' : List Th} (hp : AgStay g M add' d' F W W') : PairF B g M add' d' l ad cap e W' F := by
  obtain ⟨p1, p2⟩ := hp
  have hs := p2.size
  have hs3 := h.made.size
  exact ⟨p1, fun j hj => by have := h.bound j hj; omega, h.made.trans (p2.below (fun j hj => (h.bound j hj).1) hs3), ⟨rdR_same h.lst.rd hs (fun x e1 => p2.block _ (h.lst.off x e1).1 (h.lst.off x e1).2.1), h.lst.cap1, h.lst.cap2, h.lst.nil, fun x e1 => ⟨by have := (h.lst.off x e1).1; omega, (h.lst.off x e1).2⟩⟩, h.box.stay p2 h.offE, h.offE, h.baseE⟩
/-- A list that the reference has made lies aside. -/
theorem PairF.fresh (h : PairF B g M add d l ad cap e W F) (hB : Below W.heap.size W W') {l' : List Th} {ad' : Option Addr} {cap' : Nat} (ho : OwnR W' W.heap.size (.slice ad' l'.length cap') l') : Lst F e W' l' ad' cap' := by
  have hp := ho.pos
  have hp2 := hp.2.1
  unfold maxLen at hp2
  refine ⟨(ho.rd encW_len).1, hp.1, by omega, hp.2.2.2, fun x e1 => ?_⟩
  rcases ho.2 with ⟨hv, -⟩ | ⟨g', c', cur, hv, hb', hg, -⟩
  · simp only [Value.slice.injEq] at hv
    rw [hv.1] at e1; cases e1
  · simp only [Value.slice.injEq] at hv
    rw [hv.1] at e1
    cases e1
    have hE := h.box.lt
    refine ⟨(Array.getElem?_eq_some_iff.1 hg).1, fun hf => ?_, ?_⟩
    · have := (h.bound _ hf).2
      simp only at this
      omega
    · simp only; omega
/-- It takes the other's place in the box. -/
theorem PairF.store (h : PairF B g M add d l ad cap e W F) {l' : List Th} {ad' : Option Addr} {cap' : Nat} (hl : Lst F e W l' ad' cap') :
    PairF B g M add d l' ad' cap' e ((W.setCell ⟨e, 0, none⟩ (.slice ad' l'.length cap')).setCell ⟨e, 1, none⟩ (.int .i64 M)) F := by
  have hS : Below e W ((W.setCell ⟨e, 0, none⟩ (.slice ad' l'.length cap')).setCell ⟨e, 1, none⟩ (.int .i64 M)) := ((Below.refl _ _).setCell (p := ⟨e, 0, none⟩) (Nat.le_refl _) _).setCell (p := ⟨e, 1, none⟩) (Nat.le_refl _) _
  have hblk : ∀ k, k ≠ e → ((W.setCell ⟨e, 0, none⟩ (.slice ad' l'.length cap')).setCell ⟨e, 1, none⟩ (.int .i64 M)).heap[k]? = W.heap[k]? := fun k hk => by
    rw [Below.heap_setCell _ _ _ _ (by exact hk), Below.heap_setCell _ _ _ _ (by exact hk)]
  have hs := hS.size
  exact ⟨h.ag.kept (fun k hF _ => hblk k (fun e1 => h.offE (e1 ▸ hF))), fun j hj => by have := h.bound j hj; omega, h.made.trans (hS.mono h.baseE), ⟨rdR_same hl.rd hs (fun x e1 => hblk _ (hl.off x e1).2.2), hl.cap1, hl.cap2, hl.nil, fun x e1 => ⟨by have := (hl.off x e1).1; omega, (hl.off x e1).2⟩⟩, (h.box.put 0 _).put 1 _, h.offE, h.baseE⟩
/-- The box's cells. -/
theorem PairF.cells (h : PairF B g M add d l ad cap e W F) : W.cell? ⟨e, 0, none⟩ = some (.slice ad l.length cap) ∧ W.cell? ⟨e, 1, none⟩ = some (.int .i64 M) ∧ W.frozen? ⟨e, 0, none⟩ = false ∧ W.frozen? ⟨e, 1, none⟩ = false := ⟨h.box.cell 0, h.box.cell 1, h.box.free 0, h.box.free 1⟩
theorem PairF.storeN (h : PairF B g M add d l ad cap e W F) {l' : List Th} {ad' : Option Addr} {cap' n' : Nat} (hl : Lst F e W l' ad' cap') (hn : l'.length = n') :
    PairF B g M add d l' ad' cap' e ((W.setCell ⟨e, 0, none⟩ (.slice ad' n' cap')).setCell ⟨e, 1, none⟩ (.int .i64 M)) F := by
  subst hn; exact h.store hl
/-- The reference's Add, where there is room. -/
theorem PairF.radd (h : PairF B g M add d l ad cap e W F) (hB : Below W.heap.size W W') (t : Th) (hN : l.length ≤ 100000) (hM : (l.length : Int) < M) {n2 : Nat} (hn2 : (l ++ [t]).length = n2) :
    Calls Try.prog 30 #[.agg #[.slice ad l.length cap, .int .i64 M], .int .i64 t.due, .int .i64 t.x] W' fun z w' => ∃ ad2 cap2, z = .returned (.tuple #[.agg #[.slice ad2 n2 cap2, .int .i64 M], .bool true]) ∧ Below W'.heap.size W' w' ∧ Lst F e w' (l ++ [t]) ad2 cap2 := by
  subst hn2
  have h' := h.below hB
  refine (AgdR.radd_any t ad l.length cap M l W' rfl hN h'.lst.rd h'.lst.cap2 h'.lst.nil hM h'.lst.cap1).mono fun z w' hh => ?_
  obtain ⟨ad2, cap2, e1, e2, e3⟩ := hh
  exact ⟨ad2, cap2, e1, e3, h'.fresh e3 e2⟩
def adL (M : Int) (l : List Th) (t : Th) : List Th := if (l.length : Int) ≥ M then l else l ++ [t]
def adB (M : Int) (l : List Th) : Bool := !decide ((l.length : Int) ≥ M)
/-- The reference's Add. -/
theorem PairF.raddB (h : PairF B g M add d l ad cap e W F) (hB : Below W.heap.size W W') (t : Th) (hN : l.length ≤ 100000) {n2 : Nat} (hn2 : (adL M l t).length = n2) :
    Calls Try.prog 30 #[.agg #[.slice ad l.length cap, .int .i64 M], .int .i64 t.due, .int .i64 t.x] W' fun z w' => ∃ ad2 cap2, z = .returned (.tuple #[.agg #[.slice ad2 n2 cap2, .int .i64 M], .bool (adB M l)]) ∧ Below W'.heap.size W' w' ∧ Lst F e w' (adL M l t) ad2 cap2 := by
  by_cases hfull : (l.length : Int) ≥ M
  · have e1 : adL M l t = l := if_pos hfull
    have e2 : adB M l = false := by simp [adB]; omega
    rw [e1] at hn2 ⊢
    rw [e2]
    subst hn2
    have h' := h.below hB
    exact (AgdR.radd_full t.due t.x ad l.length cap M l W' rfl hfull).mono fun z w' ⟨q1, q2⟩ => ⟨ad, cap, q1, q2, h'.lst.below q2⟩
  · have e1 : adL M l t = l ++ [t] := if_neg hfull
    have e2 : adB M l = true := by simp [adB]; omega
    rw [e1] at hn2 ⊢
    rw [e2]
    exact h.radd hB t hN (by omega) hn2
/-- The reference's Take. -/
theorem PairF.rtake (h : PairF B g M add d l ad cap e W F) (hB : Below W.heap.size W W') (now : Int) (hN : l.length ≤ 100000) {n2 : Nat} (hn2 : (tl l now).length = n2) :
    Calls Try.prog 33 #[.agg #[.slice ad l.length cap, .int .i64 M], .int .i64 now] W' fun z w' => ∃ ad2 cap2, z = .returned (.tuple #[.agg #[.slice ad2 n2 cap2, .int .i64 M], .int .i64 (tx l now), .bool (can l now)]) ∧ Below W'.heap.size W' w' ∧ Lst F e w' (tl l now) ad2 cap2 ∧
      ∀ x, ad2 = some x → x.block < W.heap.size ∨ W'.heap.size ≤ x.block := by
  subst hn2
  have h' := h.below hB
  cases hc : can l now with
  | false =>
    have e1 : tl l now = l := by unfold tl; rw [hc]; rfl
    have e2 : tx l now = 0 := by unfold tx; rw [hc]; rfl
    rw [e1, e2]
    refine (AgdR.rtake_none now ad l.length cap M l W' rfl hN h'.lst.rd h'.lst.cap1 h'.lst.cap2 hc).mono fun z w' hh => ?_
    obtain ⟨q1, q2⟩ := hh
    exact ⟨ad, cap, q1, q2, h'.lst.below q2, fun x hx => .inl (h.lst.off x hx).1⟩
  | true =>
    have e1 : tl l now = tk l := by unfold tl; rw [hc]; rfl
    have e2 : tx l now = (Agd.hd l).x := by unfold tx; rw [hc]; rfl
    rw [e1, e2]
    refine (AgdR.rtake_any now ad l.length cap M l W' rfl hN h'.lst.rd h'.lst.cap1 h'.lst.cap2 hc).mono fun z w' hh => ?_
    obtain ⟨ad2, cap2, q1, q2, q3⟩ := hh
    refine ⟨ad2, cap2, q1, q3, h'.fresh q3 q2, fun x hx => .inr ?_⟩
    subst hx
    exact own_ge q2 rfl
/-- The list and what lies beside it, behind a write to a box of the call's own. -/
theorem Lst.far {l' : List Th} {ad' : Option Addr} {cap' nb : Nat} (h : Lst F e W l' ad' cap') (hn : ∀ x, ad' = some x → x.block ≠ nb) (u u' : Value) : Lst F e ((W.setCell ⟨nb, 0, none⟩ u).setCell ⟨nb, 1, none⟩ u') l' ad' cap' := by
  have hS : Below nb W ((W.setCell ⟨nb, 0, none⟩ u).setCell ⟨nb, 1, none⟩ u') := ((Below.refl _ _).setCell (p := ⟨nb, 0, none⟩) (Nat.le_refl _) _).setCell (p := ⟨nb, 1, none⟩) (Nat.le_refl _) _
  have hblk : ∀ k, k ≠ nb → ((W.setCell ⟨nb, 0, none⟩ u).setCell ⟨nb, 1, none⟩ u').heap[k]? = W.heap[k]? := fun k hk => by
    rw [Below.heap_setCell _ _ _ _ (by exact hk), Below.heap_setCell _ _ _ _ (by exact hk)]
  have hs := hS.size
  exact ⟨rdR_same h.rd hs (fun x e1 => hblk _ (hn x e1)), h.cap1, h.cap2, h.nil, fun x e1 => ⟨by have := (h.off x e1).1; omega, (h.off x e1).2⟩⟩
/-- What stands when the reference's answer lies in a box of its own. -/
structure Held (B : World) (g : Nat) (M : Int) (add : Nat) (d l : List Th) (ad : Option Addr) (cap e : Nat) (F : Nat → Prop) (W0 : World) (l' : List Th) (ad' : Option Addr) (cap' n' nb : Nat) (W : World) : Prop where
  pair : PairF B g M add d l ad cap e W F
  lst : Lst F e W l' ad' cap'
  len : l'.length = n'
  box : Blk W nb 57 #[.slice ad' n' cap', .int .i64 M]
  ne : nb ≠ e
  below : Below W0.heap.size W0 W
theorem Held.late (h : PairF B g M add d l ad cap e W F) {w3 : World} (hB : Below W.heap.size W w3) {l' : List Th} {ad' : Option Addr} {cap' n' : Nat} (hl : Lst F e w3 l' ad' cap') (hn : l'.length = n') :
    Held B g M add d l ad cap e F W l' ad' cap' n' w3.heap.size (w3.alloc (.cells #[.slice ad' n' cap', .int .i64 M] 57)) := by
  have hs := hB.size
  have hE := h.box.lt
  have h1 := AgdR.box_below w3 (.cells #[.slice ad' n' cap', .int .i64 M] 57)
  have h2 := hB.trans (h1.mono hs)
  exact ⟨h.below h2, hl.below h1, hn, Blk.new _ _ _, by omega, h2⟩
theorem Held.early (h : PairF B g M add d l ad cap e W F) {w3 : World} {v0 v1 : Value} (hB : Below W.heap.size W w3) (hb : Blk w3 W.heap.size 57 #[v0, v1]) {l' : List Th} {ad' : Option Addr} {cap' n' : Nat} (hl : Lst F e w3 l' ad' cap') (hn : l'.length = n')
    (hx : ∀ x, ad' = some x → x.block ≠ W.heap.size) :
    Held B g M add d l ad cap e F W l' ad' cap' n' W.heap.size ((w3.setCell ⟨W.heap.size, 0, none⟩ (.slice ad' n' cap')).setCell ⟨W.heap.size, 1, none⟩ (.int .i64 M)) := by
  have hE := h.box.lt
  have h2 : Below W.heap.size W ((w3.setCell ⟨W.heap.size, 0, none⟩ (.slice ad' n' cap')).setCell ⟨W.heap.size, 1, none⟩ (.int .i64 M)) := (hB.setCell (p := ⟨W.heap.size, 0, none⟩) (Nat.le_refl _) _).setCell (p := ⟨W.heap.size, 1, none⟩) (Nat.le_refl _) _
  exact ⟨h.below h2, hl.far hx _ _, hn, (hb.put 0 _).put 1 _, by omega, h2⟩
theorem Held.cells {W0 : World} {l' : List Th} {ad' : Option Addr} {cap' n' nb : Nat} (h : Held B g M add d l ad cap e F W0 l' ad' cap' n' nb W) : (W.cell? ⟨nb, 0, none⟩ = some (.slice ad' n' cap') ∧ W.cell? ⟨nb, 1, none⟩ = some (.int .i64 M)) ∧ W.cell? ⟨e, 0, none⟩ = some (.slice ad l.length cap) ∧ W.cell? ⟨e, 1, none⟩ = some (.int .i64 M) ∧ W.frozen? ⟨e, 0, none⟩ = false ∧ W.frozen? ⟨e, 1, none⟩ = false :=
  ⟨⟨h.box.cell 0, h.box.cell 1⟩, h.pair.cells⟩
theorem Held.store {W0 : World} {l' : List Th} {ad' : Option Addr} {cap' n' nb : Nat} (h : Held B g M add d l ad cap e F W0 l' ad' cap' n' nb W) : PairF B g M add d l' ad' cap' e ((W.setCell ⟨e, 0, none⟩ (.slice ad' n' cap')).setCell ⟨e, 1, none⟩ (.int .i64 M)) F := h.pair.storeN h.lst h.len
theorem drain_step {pre l2 d : List Th} {due : Int} (h1 : pre ++ (DR due l2).1 = (DR due d).1) (h2 : (DR due l2).2 = (DR due d).2) :
    (can l2 due = false → pre.length = (DR due d).1.length ∧ l2 = (DR due d).2) ∧
    (can l2 due = true → pre.length < (DR due d).1.length ∧ ((DR due d).1.map Th.x).getD pre.length 0 = tx l2 due ∧ (pre ++ [Agd.hd l2]) ++ (DR due (tl l2 due)).1 = (DR due d).1 ∧ (DR due (tl l2 due)).2 = (DR due d).2 ∧ (tl l2 due).length + 1 = l2.length) := by
  refine ⟨fun hc => ?_, fun hc => ?_⟩
  · rw [DR_stop hc] at h1 h2
    simp only [List.append_nil] at h1
    exact ⟨by rw [h1], h2⟩
  · rw [DR_step hc] at h1 h2
    have e1 : tl l2 due = tk l2 := by unfold tl; rw [hc]; rfl
    have e2 : tx l2 due = (Agd.hd l2).x := by unfold tx; rw [hc]; rfl
    rw [e1, e2, ← h1]
    refine ⟨by rw [List.length_append, List.length_cons]; omega, ?_, by rw [List.append_assoc]; rfl, h2, tk_len (can_true hc).1⟩
    simp [List.getD]
theorem own_box {base : Nat} {v : Value} {xs : List Int} (h : OwnI W base v xs) (he : e < base) (u u' : Value) : OwnI ((W.setCell ⟨e, 0, none⟩ u).setCell ⟨e, 1, none⟩ u') base v xs := by
  have hne : v.ownBlock ≠ some e := fun e1 => by have := own_ge h e1; omega
  exact World.ownsRow.kept (World.ownsRow.kept h (setCell_grown W e 0 u) (.inr hne)) (setCell_grown _ e 1 u') (.inr hne)
theorem own_cell {base n : Nat} {ad' : Option Addr} {cap' : Nat} {xs : List Int} (h : OwnI W base (.slice ad' n cap') xs) {i : Nat} (hi : i < xs.length) : ∃ b, ad' = some ⟨b, 0, none⟩ ∧ W.cell? ⟨b, i, none⟩ = some (.int .i64 (xs.getD i 0)) ∧ base ≤ b := own_cells h hi
/-- They begin. -/
theorem Pair.new {w : World} (hB1 : Below w.heap.size w W) (h : AgL W g M 0 [] F) (hF : ∀ j, F j → w.heap.size ≤ j ∧ j < W.heap.size) {W1 : World} (hB2 : Below W.heap.size W W1) : Pair w g M 0 [] none 0 W1.heap.size (W1.alloc (.cells #[.slice none 0 0, .int .i64 M] 57)) := by
  have hs1 := hB1.size
  have hs2 := hB2.size
  have hB3 : Below W1.heap.size W1 (W1.alloc (.cells #[.slice none 0 0, .int .i64 M] 57)) := AgdR.box_below _ _
  have hsz : (W1.alloc (.cells #[.slice none 0 0, .int .i64 M] 57)).heap.size = W1.heap.size + 1 := World.size_alloc _ _
  refine ⟨F, (h.below hB2).below hB3, fun j hj => by have := hF j hj; omega, (hB1.trans (hB2.mono hs1)).trans (hB3.mono (by omega)), ⟨.inl rfl, Nat.le_refl _, by omega, fun _ => rfl, fun x e1 => by cases e1⟩, Blk.new _ _ _, fun hf => ?_, by omega⟩
  have := hF _ hf; omega
end
end Go.Proofs.Ytliblcjfccijjaa.AgdL
