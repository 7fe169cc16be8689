/- Two lists of the call's own side by side (layer 24's law of near readings; for every law that builds two lists of int64). -/
import Derived.Test.YtkcjllkhmncfdaaDoorTrmE
import Derived.Test.YtkcjllkhmncfdaaDoorRowC
namespace Go.Proofs.YtkcjllkhmncfdaaDoor.Trm
open Go.ChangeShapes Go.WideShapes Go.ChangeAt Go.RowKit
open I64s (In64 Sl OwnL ListPost app_one app_all)
set_option linter.unusedVariables false
/-- An append of one number, wherever its box lies, as a step of a region that draws its order. -/
theorem step_lit {W : World} {ops : Array Oper} {o : Oper} {a : Act} {K : Act → World → Prop} {Q : Exit → Act → World → Prop} {E : Prop} (hgd : o.guard = none) (s x : Operand)
    (ho : o.op = .call { callee := .builtin .append, args := #[s, x], argTypes := #[27, 27] }) (base : Nat) (v : Value) (L : List Int) (hs : a.eval s = v) (hown : OwnL W base v L)
    (g : Nat) (p : Int) (hx : a.eval x = .slice (some ⟨g, 0, none⟩) 1 1) (hg : W.cell? ⟨g, 0, none⟩ = some (.int .i64 p)) (hl : L.length ≤ 1000) (hbase : base ≤ W.heap.size)
    (h : ∀ v' w', OwnL w' base v' (L ++ [p]) → W.grownBy w' v.ownBlock → (v'.ownBlock = v.ownBlock ∨ ∀ k, v'.ownBlock = some k → W.heap.size ≤ k) → K (a.put o.dst v') w') :
    if Region.wanted o (yielded ops a.tmps) = true then Oper.wp Tryd.prog o a W K Q else E := by
  obtain ⟨i0, hi, hz0, hz1, hz2⟩ := I64s.info_parts
  refine Rw.step_append2 _ hgd s x 27 ho base 2 i0 (.int .i64 0) 1 8 Tryd.underlying27 hi hz0 hz1 hz2 rfl (by decide) v L.length (L.map (Value.int .i64)) hs hown (some ⟨g, 0, none⟩) 1 1 [.int .i64 p] hx rfl (fun e => by cases e) (fun ad e => ?_) (by simp [Value.oneCell']) (by unfold maxLen; omega) (by omega) hbase ?_
  · cases e
    intro j u hj
    match j, hj with
    | 0, hj =>
      simp only [List.getElem?_cons_zero, Option.some.injEq] at hj
      subst hj
      rw [Addr.add_lit]
      exact hg
  · intro v' w1 h1 h2 h3
    exact h v' w1 (I64s.OwnL.snoc h1) h2 h3
theorem new_cell (W : World) (p : Int) (e : TypeId) : (W.alloc (.cells #[.int .i64 p] e)).cell? ⟨W.heap.size, 0, none⟩ = some (.int .i64 p) := by
  have := I64s.tmp_cell W p e 0 _ rfl
  rwa [Addr.add_lit] at this
theorem old_cell (W : World) (p : Int) (e : TypeId) (o : Obj) : ((W.alloc (.cells #[.int .i64 p] e)).alloc o).drew.cell? ⟨W.heap.size, 0, none⟩ = some (.int .i64 p) := by
  have h := new_cell W p e
  have hB : Below (W.heap.size + 1) (W.alloc (.cells #[.int .i64 p] e)) ((W.alloc (.cells #[.int .i64 p] e)).alloc o).drew := ((Below.refl _ _).alloc (by rw [World.size_alloc]; exact Nat.le_refl _) o).drew
  exact (hB.cell (p := ⟨W.heap.size, 0, none⟩) (Nat.lt_succ_self _)).trans h
theorem nxt_cell (W : World) (p : Int) (e : TypeId) (o : Obj) : ((W.alloc o).alloc (.cells #[.int .i64 p] e)).drew.cell? ⟨W.heap.size + 1, 0, none⟩ = some (.int .i64 p) := by
  have h := new_cell (W.alloc o) p e
  rw [World.size_alloc] at h
  exact h
/-- Two lists of the call's own. -/
structure Two (w W : World) (va vb : Value) (A B : List Int) : Prop where
  owna : OwnL W w.heap.size va A
  ownb : OwnL W w.heap.size vb B
  ne : ∀ g, va.ownBlock = some g → vb.ownBlock ≠ some g
  below : Below w.heap.size w W
theorem Two.start (w : World) : Two w w (.slice none 0 0) (.slice none 0 0) [] [] :=
  ⟨I64s.OwnL.nil _ _, I64s.OwnL.nil _ _, fun g e => by simp [Value.ownBlock] at e, Below.refl _ _⟩
theorem Two.alloc {w W : World} {va vb : Value} {A B : List Int} (h : Two w W va vb A B) (o : Obj) : Two w (W.alloc o) va vb A B :=
  ⟨h.owna.alloc o, h.ownb.alloc o, h.ne, h.below.alloc h.below.size o⟩
theorem Two.drew {w W : World} {va vb : Value} {A B : List Int} (h : Two w W va vb A B) : Two w W.drew va vb A B :=
  ⟨h.owna, h.ownb, h.ne, h.below.drew⟩
theorem Two.appA {w W w' : World} {va vb va' : Value} {A B A' : List Int} (h : Two w W va vb A B) (ho : OwnL w' w.heap.size va' A') (hg : W.grownBy w' va.ownBlock) (hb : va'.ownBlock = va.ownBlock ∨ ∀ k, va'.ownBlock = some k → W.heap.size ≤ k) : Two w w' va' vb A' B := by
  refine ⟨ho, World.ownsRow.kept h.ownb hg ?_, fun g e => ?_, h.below.grown hg h.below.size (fun k e => (h.owna.blk e).1)⟩
  · cases hv : vb.ownBlock with
    | none => exact .inl rfl
    | some g => exact .inr (fun e => h.ne g e.symm hv)
  · rcases hb with hb | hb
    · exact h.ne g (by rw [← hb, e])
    · intro e2
      have h1 := hb g e
      have h2 := (h.ownb.blk e2).2
      omega
theorem Two.flip {w W : World} {va vb : Value} {A B : List Int} (h : Two w W va vb A B) : Two w W vb va B A := ⟨h.ownb, h.owna, fun g e e' => h.ne g e' e, h.below⟩
theorem Two.appB {w W w' : World} {va vb vb' : Value} {A B B' : List Int} (h : Two w W va vb A B) (ho : OwnL w' w.heap.size vb' B') (hg : W.grownBy w' vb.ownBlock) (hb : vb'.ownBlock = vb.ownBlock ∨ ∀ k, vb'.ownBlock = some k → W.heap.size ≤ k) : Two w w' va vb' A B' := (h.flip.appA ho hg hb).flip
/-- A box that is new stays. -/
theorem Two.box {w W w' V : World} {va vb : Value} {A B : List Int} (h : Two w W va vb A B) {g : Nat} {p : Int} (hg : V.cell? ⟨g, 0, none⟩ = some (.int .i64 p)) (hl : W.heap.size ≤ g) (hw : V.grownBy w' va.ownBlock) : w'.cell? ⟨g, 0, none⟩ = some (.int .i64 p) :=
  hw.cell hg (fun e => by have := (h.owna.blk e.symm).2; simp only at this; omega)
/-- Two lists that are near place by place. -/
structure Near (k : Nat) (A B : List Int) (D : Int) : Prop where
  lena : A.length = k
  lenb : B.length = k
  ab : leL A (sh D B)
  ba : leL B (sh D A)
  a64 : In64 A
  b64 : In64 B
theorem Near.start : Near 0 [] [] 0 := ⟨rfl, rfl, trivial, trivial, fun x hx => by simp at hx, fun x hx => by simp at hx⟩
theorem leL_sh : ∀ {A B : List Int} {d e : Int}, d ≤ e → leL A (sh d B) → leL A (sh e B)
  | [], [], _, _, _, _ => trivial
  | x :: A, y :: B, d, e, hde, h => ⟨by have h1 : x ≤ y + d := h.1; show x ≤ y + e; omega, leL_sh hde h.2⟩
  | [], y :: B, _, _, _, h => h.elim
  | x :: A, [], _, _, _, h => h.elim
theorem in64_snoc {A : List Int} {x : Int} (h : In64 A) (hx : -9223372036854775808 ≤ x ∧ x ≤ 9223372036854775807) : In64 (A ++ [x]) := fun y hy => by
  rcases List.mem_append.1 hy with h1 | h1
  · exact h y h1
  · rw [List.mem_singleton.1 h1]; exact hx
theorem Near.more {k : Nat} {A B : List Int} {D E z c : Int} (h : Near k A B D) (hE : D ≤ E) (h1 : c ≤ E) (h2 : -c ≤ E) (hz : -2147483648 ≤ z ∧ z ≤ 2147483647) (hc : -32768 ≤ c ∧ c ≤ 32767) : Near (k + 1) (A ++ [z]) (B ++ [z + c]) E := by
  refine ⟨by simp [h.lena], by simp [h.lenb], ?_, ?_, in64_snoc h.a64 (by omega), in64_snoc h.b64 (by omega)⟩
  · have := leL_snoc (x := z) (y := (z + c) + E) (leL_sh hE h.ab) (by omega)
    unfold sh at this ⊢
    rw [List.map_append]
    exact this
  · have := leL_snoc (x := z + c) (y := z + E) (leL_sh hE h.ba) (by omega)
    unfold sh at this ⊢
    rw [List.map_append]
    exact this
theorem Near.mid {k : Nat} {A B : List Int} {D : Int} (h : Near k A B D) (h0 : 0 ≤ D) (f : Int) : midV f A - midV f B ≤ D ∧ midV f B - midV f A ≤ D := by
  have h1 := mid_le f h0 h.ab
  have h2 := mid_le f h0 h.ba
  omega
end Go.Proofs.YtkcjllkhmncfdaaDoor.Trm
