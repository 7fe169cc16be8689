/- A call of both tables (layer 7): what is private to it; where a key's row stands; the function that Drop is handed. -/
import Derived.Test.YtolcidilnmjlmaaTblSD
namespace Go.Proofs.Ytolcidilnmjlmaa.TblL
open Go.ChangeShapes Go.WideShapes Go.ChangeAt Go.RowKit Go.Sort
open Go.Proofs.Ytolcidilnmjlmaa.Key Go.Proofs.Ytolcidilnmjlmaa.Rw Go.Proofs.Ytolcidilnmjlmaa.Tbl
open Go.Proofs.Ytolcidilnmjlmaa.TblR (encW encW_len RdR OwnR tval at4 rput_any PutPost NewR rdel_any rdrop_any rat_any atR)
set_option linter.unusedVariables false
set_option linter.unusedSimpArgs false
theorem at_some {d : List Row} {k : Ky} (hs : Str (keys d)) (hk : (lookR d k).isSome = true) : ∃ i : Nat, i < d.length ∧ atR d k = (i : Int) ∧ delD d k = delR d i ∧ rowAt d i = (k, val0 d k) := by
  have hmem : k ∈ keys d := by
    apply Classical.byContradiction
    intro hn
    rw [lookR_none.2 hn] at hk
    cases hk
  obtain ⟨h1, h2⟩ := pos_at hs hmem
  have h3 : pos (keys d) k < d.length := by rw [← keys_len]; exact h1
  have hf : (keys d).findIdx (fun y => decide (y = k)) = pos (keys d) k := by
    rw [List.findIdx_eq h1]
    have h2' : (keys d)[pos (keys d) k] = k := by have := h2; simp only [List.getD, List.getElem?_eq_getElem h1, Option.getD_some] at this; exact this
    refine ⟨by simp [h2'], fun j hj => ?_⟩
    have h4 := pos_lt hj
    have h5 : (keys d).getD j default = (keys d)[j] := by simp [List.getD]; rw [List.getElem?_eq_getElem (by omega)]; rfl
    rw [h5] at h4
    simp only [decide_eq_false_iff_not]
    intro e
    rw [e, lt_irrefl] at h4
    cases h4
  have hl := lookR_at hs h3
  rw [h2] at hl
  refine ⟨pos (keys d) k, h3, by unfold atR; rw [if_pos hk, hf], by unfold delD; rw [if_pos hk], ?_⟩
  have e1 : rowAt d (pos (keys d) k) = d[pos (keys d) k] := by simp [rowAt, List.getD, h3]
  have e2 : (d[pos (keys d) k]).1 = k := by
    have h5 : (keys d).getD (pos (keys d) k) default = (keys d)[pos (keys d) k] := by simp only [List.getD, List.getElem?_eq_getElem h1, Option.getD_some]
    have h6 : (keys d)[pos (keys d) k] = (d[pos (keys d) k]).1 := by
      have h7 : ∀ i (hi : i < d.length) (hi' : i < (keys d).length), (keys d)[i] = (d[i]).1 := fun i hi hi' => by simp [keys]
      exact h7 _ h3 h1
    rw [← h6, ← h5, h2]
  rw [e1]
  unfold val0
  rw [hl]
  exact Prod.ext e2 rfl
theorem at_none {d : List Row} {k : Ky} (hk : (lookR d k).isSome = false) : atR d k = -1 ∧ delD d k = d ∧ val0 d k = 0 := by
  refine ⟨by unfold atR; rw [hk]; rfl, by unfold delD; rw [hk]; rfl, ?_⟩
  unfold val0
  cases h : lookR d k with
  | none => rfl
  | some v => rw [h] at hk; cases hk
theorem filter_two (pr : Row → Bool) : ∀ d : List Row, (d.filter pr).length + (d.filter (fun r => !pr r)).length = d.length
  | [] => rfl
  | r :: d => by
    have ih := filter_two pr d
    cases h : pr r <;> simp [List.filter, h] <;> omega
theorem PairS.str {B W : World} {g cap e : Nat} {most : Int} {d l : List Row} {ad : Option Addr} (h : PairS B g most d l ad cap e W) : Str (keys d) := by
  obtain ⟨F, h⟩ := h
  obtain ⟨mb, ov, -, -, -, h4, -⟩ := h.tab
  exact h4
/-- What is private to the call: the table that was handed in, the act, the answer. -/
structure One (c : Cx) (v0 v1 r0 r1 : Value) (kd : Nat) (k : Ky) (v : Int) (d l' : List Row) (ad' : Option Addr) (cap' : Nat) (W : World) : Prop where
  two : Two c d l' ad' cap' W
  hhi : c.hi = c.lo + 3
  t : Blk W c.lo 27 #[v0, v1]
  a : Blk W (c.lo + 1) 36 #[.int .u8 kd, .int .i64 k.1, .int .i64 k.2.1, .int .u32 k.2.2, .int .i64 v]
  r : Blk W (c.lo + 1 + 1) 27 #[r0, r1]
section
variable {c : Cx} {v0 v1 r0 r1 : Value} {kd : Nat} {k : Ky} {v : Int} {d l' : List Row} {ad' : Option Addr} {cap' : Nat} {W W' : World}
theorem One.below (h : One c v0 v1 r0 r1 kd k v d l' ad' cap' W) (hB : Below W.heap.size W W') : One c v0 v1 r0 r1 kd k v d l' ad' cap' W' :=
  ⟨h.two.below hB, h.hhi, h.t.below hB, h.a.below hB, h.r.below hB⟩
theorem One.cells (h : One c v0 v1 r0 r1 kd k v d l' ad' cap' W) : (W.cell? ⟨c.lo, 0, none⟩ = some v0 ∧ W.cell? ⟨c.lo, 1, none⟩ = some v1) ∧ (W.cell? ⟨c.lo + 1, 0, none⟩ = some (.int .u8 kd) ∧ W.cell? ⟨c.lo + 1, 1, none⟩ = some (.int .i64 k.1) ∧ W.cell? ⟨c.lo + 1, 2, none⟩ = some (.int .i64 k.2.1) ∧ W.cell? ⟨c.lo + 1, 3, none⟩ = some (.int .u32 k.2.2) ∧ W.cell? ⟨c.lo + 1, 4, none⟩ = some (.int .i64 v)) ∧
    (W.cell? ⟨c.lo + 1 + 1, 0, none⟩ = some r0 ∧ W.cell? ⟨c.lo + 1 + 1, 1, none⟩ = some r1) ∧ (W.frozen? ⟨c.lo, 0, none⟩ = false ∧ W.frozen? ⟨c.lo, 1, none⟩ = false) ∧ W.frozen? ⟨c.lo + 1 + 1, 0, none⟩ = false ∧ W.frozen? ⟨c.lo + 1 + 1, 1, none⟩ = false :=
  ⟨⟨h.t.cell 0, h.t.cell 1⟩, ⟨h.a.cell 0, h.a.cell 1, h.a.cell 2, h.a.cell 3, h.a.cell 4⟩, ⟨h.r.cell 0, h.r.cell 1⟩, ⟨h.t.free 0, h.t.free 1⟩, h.r.free 0, h.r.free 1⟩
/-- The answer is laid. -/
theorem One.answer (h : One c v0 v1 r0 r1 kd k v d l' ad' cap' W) (u0 u1 : Value) : One c v0 v1 u0 u1 kd k v d l' ad' cap' ((W.setCell ⟨c.lo + 1 + 1, 0, none⟩ u0).setCell ⟨c.lo + 1 + 1, 1, none⟩ u1) := by
  have h1 := h.hhi
  refine ⟨(h.two.set (p := ⟨c.lo + 1 + 1, 0, none⟩) (by simp only; omega) (by simp only; omega) u0).set (p := ⟨c.lo + 1 + 1, 1, none⟩) (by simp only; omega) (by simp only; omega) u1, h1, (h.t.far (by simp <;> omega) _).far (by simp <;> omega) _, (h.a.far (by simp <;> omega) _).far (by simp <;> omega) _, (h.r.put 0 u0).put 1 u1⟩
/-- The table that was handed in is another one now. -/
theorem One.other (h : One c v0 v1 r0 r1 kd k v d l' ad' cap' W) (u0 u1 : Value) : One c u0 u1 r0 r1 kd k v d l' ad' cap' ((W.setCell ⟨c.lo, 0, none⟩ u0).setCell ⟨c.lo, 1, none⟩ u1) := by
  have h1 := h.hhi
  refine ⟨(h.two.set (p := ⟨c.lo, 0, none⟩) (by simp only; omega) (by simp only; omega) u0).set (p := ⟨c.lo, 1, none⟩) (by simp only; omega) (by simp only; omega) u1, h1, (h.t.put 0 u0).put 1 u1, (h.a.far (by simp <;> omega) _).far (by simp <;> omega) _, (h.r.far (by simp <;> omega) _).far (by simp <;> omega) _⟩
theorem One.post (h : One c v0 v1 r0 r1 kd k v d l' ad' cap' W) {d' : List Row} (hp : ∃ F, TwoF c d l' ad' cap' W F ∧ TabPost c.g c.most d' F W W') : One c v0 v1 r0 r1 kd k v d' l' ad' cap' W' := by
  obtain ⟨F, h2, h3⟩ := hp
  have h1 := h.hhi
  exact ⟨h2.post h3, h1, h.t.stay h3.2 (h2.own _ (by omega) (by omega)).1, h.a.stay h3.2 (h2.own _ (by omega) (by omega)).1, h.r.stay h3.2 (h2.own _ (by omega) (by omega)).1⟩
theorem One.put (h : One c v0 v1 r0 r1 kd k v d l' ad' cap' W) (hk : ok k) (hd : d.length ≤ 255) (hm : 0 ≤ c.most ∧ c.most ≤ 65536) :
    Calls Try.prog 12 #[.pointer (some ⟨c.g, 0, none⟩), kval k, .int .i64 v] W fun x w' => x = .returned (.int .i64 (putE c.most d k)) ∧ One c v0 v1 r0 r1 kd k v (putD c.most d k v) l' ad' cap' w' := by
  obtain ⟨F, h2⟩ := h.two
  exact (put_any k v hk c.g c.most d F W h2.pair.tab hm hd).mono fun x w' hh => ⟨hh.1, h.post ⟨F, h2, hh.2⟩⟩
theorem One.del (h : One c v0 v1 r0 r1 kd k v d l' ad' cap' W) (hk : ok k) (hd : d.length ≤ 255) :
    Calls Try.prog 20 #[.pointer (some ⟨c.g, 0, none⟩), kval k] W fun x w' => x = .returned (.bool (lookR d k).isSome) ∧ One c v0 v1 r0 r1 kd k v (delD d k) l' ad' cap' w' := by
  obtain ⟨F, h2⟩ := h.two
  exact (del_any k hk c.g c.most d F W h2.pair.tab (by omega)).mono fun x w' hh => ⟨hh.1, h.post ⟨F, h2, hh.2.post⟩⟩
theorem One.pop (h : One c v0 v1 r0 r1 kd k v d l' ad' cap' W) (hd : d.length ≤ 255) :
    Calls Try.prog 14 #[.pointer (some ⟨c.g, 0, none⟩)] W fun x w' => x = .returned (.tuple #[kval (minK d), .int .i64 (minV d), .bool (some1 d)]) ∧ One c v0 v1 r0 r1 kd k v d.tail l' ad' cap' w' := by
  obtain ⟨F, h2⟩ := h.two
  exact (pop_any c.g c.most d F W h2.pair.tab (fun j hj => (h2.pair.bound j hj).2) (by omega)).mono fun x w' hh => ⟨hh.1, h.post ⟨F, h2, hh.2.post⟩⟩
theorem One.clear (h : One c v0 v1 r0 r1 kd k v d l' ad' cap' W) :
    Calls Try.prog 17 #[.pointer (some ⟨c.g, 0, none⟩)] W fun x w' => x = .returned (.tuple #[]) ∧ One c v0 v1 r0 r1 kd k v [] l' ad' cap' w' := by
  obtain ⟨F, h2⟩ := h.two
  exact (clear_any c.g c.most d F W h2.pair.tab).mono fun x w' hh => ⟨hh.1, h.post ⟨F, h2, hh.2.post⟩⟩
theorem One.get (h : One c v0 v1 r0 r1 kd k v d l' ad' cap' W) (hk : ok k) :
    Calls Try.prog 18 #[.pointer (some ⟨c.g, 0, none⟩), kval k] W fun x w' => x = .returned (.tuple #[.int .i64 (val0 d k), .bool (lookR d k).isSome]) ∧ One c v0 v1 r0 r1 kd k v d l' ad' cap' w' ∧ Below W.heap.size W w' := by
  obtain ⟨F, h2⟩ := h.two
  exact (get_any k hk c.g c.most d F W h2.pair.tab).mono fun x w' hh => ⟨hh.1, h.below hh.2.below, hh.2.below⟩
/-- A row of the list. -/
theorem One.row (h : One c v0 v1 r0 r1 kd k v d l' ad' cap' W) {i : Nat} (hi : i < l'.length) : ∃ b off, ad' = some ⟨b, off, none⟩ ∧ ∀ w', Below W.heap.size W w' → Rw.At encW w' b (off + i * 4) (rowAt l' i) := by
  obtain ⟨F, h2⟩ := h.two
  obtain ⟨b, off, e, hb, hc⟩ := h2.lst.rd.at_ (i := i) hi
  have e1 : l'.getD i default = rowAt l' i := by simp [rowAt, List.getD, hi]
  rw [e1] at hc
  exact ⟨b, off, e, fun w' hB => hc.below hB hb⟩
theorem One.rowAt {b off : Nat} (h : One c v0 v1 r0 r1 kd k v d l' (some ⟨b, off, none⟩) cap' W) {i : Nat} (hi : i < l'.length) : Rw.At encW W b (off + i * 4) (TblL.rowAt l' i) := by
  obtain ⟨b', off', e, hc⟩ := h.row hi
  cases e
  exact hc W (Below.refl _ _)
set_option maxRecDepth 100000 in
/-- The function that Drop is handed. -/
theorem oneF_any (q : Ky) (x : Int) (a : Nat) (W : World) (h : Blk W a 36 #[.int .u8 kd, .int .i64 k.1, .int .i64 k.2.1, .int .u32 k.2.2, .int .i64 v]) :
    Calls Try.prog 27 (#[kval q, .int .i64 x] ++ #[.pointer (some ⟨a, 0, none⟩)]) W fun e w' => e = .returned (.bool (decide (q.1 ≤ k.1))) ∧ Gr W w' := by
  have hb := (h.alloc (.cells #[.int .i64 q.1, .int .i64 q.2.1, .int .u32 q.2.2] 34)).cell 1
  have hq := (Blk.new W 34 #[.int .i64 q.1, .int .i64 q.2.1, .int .u32 q.2.2]).cell 0
  have hG : Hid (Gr W (W.alloc (.cells #[.int .i64 q.1, .int .i64 q.2.1, .int .u32 q.2.2] 34))) := Lib.hid ((Gr.refl W).alloc _)
  unfold kval
  go_enter Try.func27, Try.ntmps27
  go_wp2_with fail
  go_ret
  exact ⟨rfl, hG.out⟩
theorem One.drop (h : One c v0 v1 r0 r1 kd k v d l' ad' cap' W) (hd : d.length ≤ 255) :
    Calls Try.prog 23 #[.pointer (some ⟨c.g, 0, none⟩), .func (.func 27) #[] #[.pointer (some ⟨c.lo + 1, 0, none⟩)]] W fun x w' => x = .returned (.int .i64 ((d.filter (fun r => decide (r.1.1 ≤ k.1))).length : Nat)) ∧ One c v0 v1 r0 r1 kd k v (d.filter (fun r => !decide (r.1.1 ≤ k.1))) l' ad' cap' w' := by
  obtain ⟨F, h2⟩ := h.two
  have h1 := h.hhi
  exact (drop_any (fun r => decide (r.1.1 ≤ k.1)) 27 #[.pointer (some ⟨c.lo + 1, 0, none⟩)] c.g c.most d F W h2.pair.tab (fun j hj => (h2.pair.bound j hj).2) (by omega) (enters_of Try.func27 (by kernel_rfl) rfl)
    (fun i W1 hi hS => oneF_any _ _ _ W1 (h.a.stay hS (h2.own _ (by omega) (by omega)).1))).mono fun x w' hh => ⟨hh.1, h.post ⟨F, h2, hh.2.post⟩⟩
/-- A list that the reference hands out. -/
theorem One.fresh (h : One c v0 v1 r0 r1 kd k v d l' ad' cap' W) {l2 : List Row} {ad2 : Option Addr} {cap2 : Nat} (hB : Below W.heap.size W W') (ho : OwnR W' W.heap.size (.slice ad2 l2.length cap2) l2) : One c v0 v1 r0 r1 kd k v d l2 ad2 cap2 W' := by
  obtain ⟨F, h2⟩ := h.two
  exact ⟨⟨F, h2.fresh hB ho⟩, h.hhi, h.t.below hB, h.a.below hB, h.r.below hB⟩
theorem One.rput (h : One c v0 v1 r0 r1 kd k v d l' ad' cap' W) (hl : l'.length ≤ 255) (hlm : (l'.length : Int) ≤ c.most) :
    Calls Try.prog 15 #[tval ad' l'.length cap' c.most, kval k, .int .i64 v] W fun x w' => ∃ ad2 cap2, x = .returned (.tuple #[tval ad2 (putD c.most l' k v).length cap2 c.most, .int .i64 (putE c.most l' k)]) ∧ One c v0 v1 r0 r1 kd k v d (putD c.most l' k v) ad2 cap2 w' := by
  obtain ⟨F, h2⟩ := h.two
  refine (rput_any ad' cap' c.most l' k v W (by omega) h2.lst.rd h2.lst.cap1 h2.lst.cap2 h2.lst.shape hlm).mono fun x w' hh => ?_
  obtain ⟨ad2, cap2, hx, hB, hh⟩ := hh
  refine ⟨ad2, cap2, hx, ?_⟩
  rcases hh with ⟨rfl, rfl, h4⟩ | ho
  · rw [h4]; exact h.below hB
  · exact h.fresh hB ho
theorem One.rdel (h : One c v0 v1 r0 r1 kd k v d l' ad' cap' W) (hl : l'.length ≤ 255) {i : Nat} (hi : i < l'.length) :
    Calls Try.prog 26 #[tval ad' l'.length cap' c.most, .int .i64 i] W fun x w' => ∃ ad2 cap2, x = .returned (tval ad2 (delR l' i).length cap2 c.most) ∧ One c v0 v1 r0 r1 kd k v d (delR l' i) ad2 cap2 w' := by
  obtain ⟨F, h2⟩ := h.two
  refine (rdel_any ad' l'.length cap' i c.most l' W rfl hi (by omega) h2.lst.rd h2.lst.cap1 h2.lst.cap2).mono fun x w' hh => ?_
  obtain ⟨ad2, cap2, hx, ho, hB⟩ := hh
  exact ⟨ad2, cap2, hx, h.fresh hB ho⟩
theorem One.rdelB (h : One c v0 v1 r0 r1 kd k v d l' ad' cap' W) (hl : l'.length ≤ 255) {i : Nat} (hi : i < l'.length) :
    Calls Try.prog 26 #[tval ad' l'.length cap' c.most, .int .i64 i] W fun x w' => ∃ ad2 cap2, x = .returned (tval ad2 (delR l' i).length cap2 c.most) ∧ One c v0 v1 r0 r1 kd k v d (delR l' i) ad2 cap2 w' ∧ Below W.heap.size W w' := by
  obtain ⟨F, h2⟩ := h.two
  refine (rdel_any ad' l'.length cap' i c.most l' W rfl hi (by omega) h2.lst.rd h2.lst.cap1 h2.lst.cap2).mono fun x w' hh => ?_
  obtain ⟨ad2, cap2, hx, ho, hB⟩ := hh
  exact ⟨ad2, cap2, hx, h.fresh hB ho, hB⟩
theorem One.rdrop (h : One c v0 v1 r0 r1 kd k v d l' ad' cap' W) (hl : l'.length ≤ 255) (e : Int) :
    Calls Try.prog 28 #[tval ad' l'.length cap' c.most, .int .i64 e] W fun x w' => ∃ ad2 cap2, x = .returned (tval ad2 (l'.filter (fun r => !decide (r.1.1 ≤ e))).length cap2 c.most) ∧ One c v0 v1 r0 r1 kd k v d (l'.filter (fun r => !decide (r.1.1 ≤ e))) ad2 cap2 w' := by
  obtain ⟨F, h2⟩ := h.two
  refine (rdrop_any ad' l'.length cap' c.most e l' W rfl (by omega) h2.lst.rd).mono fun x w' hh => ?_
  obtain ⟨ad2, cap2, hx, ho, hB⟩ := hh
  exact ⟨ad2, cap2, hx, h.fresh hB ho⟩
theorem One.rat (h : One c v0 v1 r0 r1 kd k v d l' ad' cap' W) (hl : l'.length ≤ 255) :
    Calls Try.prog 25 #[tval ad' l'.length cap' c.most, kval k] W fun x w' => x = .returned (.int .i64 (atR l' k)) ∧ One c v0 v1 r0 r1 kd k v d l' ad' cap' w' := by
  obtain ⟨F, h2⟩ := h.two
  exact (rat_any ad' l'.length cap' c.most l' k W rfl (by omega) h2.lst.rd).mono fun x w' hh => ⟨hh.1, h.below hh.2⟩
/-- What one comes to. -/
def OnePost (B : World) (g : Nat) (most : Int) (d : List Row) (e : Nat) (x : Ending) (w' : World) : Prop :=
  ∃ (d' : List Row) (ad' : Option Addr) (cap' : Nat), d'.length ≤ d.length + 1 ∧ (d'.length : Int) ≤ most ∧ x = .returned (.tuple #[tval ad' d'.length cap' most, .bool true]) ∧ Below B.heap.size B w' ∧ (∃ v0 v1, Blk w' e 27 #[v0, v1]) ∧
    ∀ w3, Below w'.heap.size w' w3 → PairS B g most d' d' ad' cap' e ((w3.setCell ⟨e, 0, none⟩ (.slice ad' d'.length cap')).setCell ⟨e, 1, none⟩ (.int .i64 most))
theorem One.fin {B : World} {g cap e lo hi : Nat} {most : Int} {l d0 : List Row} {ad : Option Addr} (h : One ⟨B, g, most, l, ad, cap, e, lo, hi⟩ v0 v1 r0 r1 kd k v d d ad' cap' W) {u : Bool} (hu : u = true) (h1 : d.length ≤ d0.length + 1) (h2 : (d.length : Int) ≤ most) :
    OnePost B g most d0 e (.returned (.tuple #[tval ad' d.length cap' most, .bool u])) W := by
  subst hu
  obtain ⟨F, h3⟩ := h.two
  exact ⟨d, ad', cap', h1, h2, rfl, h3.pair.made, ⟨_, _, h3.pair.box⟩, fun w3 hB => h.two.store hB⟩
end
end Go.Proofs.Ytolcidilnmjlmaa.TblL
