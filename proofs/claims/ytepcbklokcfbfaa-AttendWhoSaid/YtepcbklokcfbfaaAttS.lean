/- Slices of packets of the call's own: appends as one step, two that change places (layer 12; later layers with []Packet likewise). -/
import Derived.Test.YtepcbklokcfbfaaAttL
import Derived.Test.YtepcbklokcfbfaaOwnB
import Derived.Deep.MidRow
namespace Go.Proofs.Ytepcbklokcfbfaa.Att
open Go.ChangeShapes Go.WideShapes Go.ChangeAt Go.RowKit Go.Deep
open Go.Proofs.Ytepcbklokcfbfaa.Byt Go.Proofs.Ytepcbklokcfbfaa.Key Go.Proofs.Ytepcbklokcfbfaa.Buf Go.Proofs.Ytepcbklokcfbfaa.Hed Go.Proofs.Ytepcbklokcfbfaa.Dat Go.Proofs.Ytepcbklokcfbfaa.BufM Go.Proofs.Ytepcbklokcfbfaa.Pkt
set_option linter.unusedVariables false
set_option linter.unusedSimpArgs false
/-- A slice of packets of the call's own. -/
def OwnP (w : World) (base : Nat) (v : Value) (l : List Pk) : Prop := Rw.OwnS encP 12 27 w base v l
theorem OwnP.rd {w : World} {base n cap : Nat} {ad : Option Addr} {l : List Pk} (h : OwnP w base (.slice ad n cap) l) : RdP w ad l ∧ n = l.length := Rw.OwnS.rd encP_len h
theorem OwnP.below {w w' : World} {base : Nat} {v : Value} {l : List Pk} (h : OwnP w base v l) (hB : Below w.heap.size w w') : OwnP w' base v l := Rw.OwnS.below h hB
theorem ownP_zero (w : World) : OwnP (w.alloc (.cells #[] 27)) w.heap.size (.slice (some ⟨w.heap.size, 0, none⟩) 0 0) [] :=
  ⟨rfl, .inr ⟨w.heap.size, 0, #[], rfl, Nat.le_refl _, Blk.new _ _ _, Nat.le_refl _, by unfold maxLen; omega, rfl, rfl⟩⟩
theorem encP_one (l : List Pk) : ∀ u ∈ l.flatMap encP, u.oneCell' = true := fun u hu => by
  obtain ⟨x, hx, hu⟩ := List.mem_flatMap.1 hu
  simp [encP, Pk.cells] at hu
  rcases hu with rfl | rfl | rfl | rfl | rfl | rfl | rfl | rfl | rfl | rfl | rfl | rfl <;> rfl
theorem infoPkt : (Try.prog.info? 27).map (fun i => (i.zero, i.size, i.bytes)) = some (some (pval zero), 12, 112) := by kernel_rfl
theorem cells_of {w : World} {ad : Option Addr} {l : List Pk} (h : RdP w ad l) : ∀ a', ad = some a' → ∀ j u, (l.flatMap encP)[j]? = some u → w.cell? (a'.add j) = some u := fun a' e j u hu => by
  have hj : j < (l.flatMap encP).length := (List.getElem?_eq_some_iff.1 hu).1
  rw [Rw.flat_len encP_len] at hj
  rcases h with rfl | ⟨b, off, e2, -, hc⟩
  · simp at hj
  · rw [e] at e2
    cases e2
    have h1 := Rw.flat_at encP_len l (j / 12) (j % 12) (by omega) (by omega)
    rw [show j / 12 * 12 + j % 12 = j by omega, hu] at h1
    have h2 := hc (j / 12) (by omega) (j % 12) u h1.symm
    rw [Addr.add_lit]
    rwa [show off + j / 12 * 12 + j % 12 = off + j by omega] at h2
theorem ownP_at {w : World} {base : Nat} {v : Value} {l : List Pk} {k : Nat} (h : OwnP w base v l) (hv : v.ownBlock = some k) : base ≤ k ∧ k < w.heap.size := World.ownsRow.lt h k hv
theorem appP_step {W : World} {ops : Array Oper} {rest : List Oper} {o : Oper} {a : Act} {Q : Exit → Act → World → Prop} (hgd : o.guard = none) (s x : Operand)
    (ho : o.op = .call { callee := .builtin .append, args := #[s, x], argTypes := #[49, 49] })
    (B : Nat) (ad1 : Option Addr) (n1 cap1 : Nat) (l : List Pk) (hs : a.eval s = .slice ad1 n1 cap1) (hown : OwnP W B (.slice ad1 n1 cap1) l)
    (ad2 : Option Addr) (n2 cap2 : Nat) (m : List Pk) (hx : a.eval x = .slice ad2 n2 cap2) (hn2 : n2 = m.length) (hrd : RdP W ad2 m) (hnil : ad2 = none → n2 = 0 ∧ cap2 = 0) (hlen : l.length + m.length ≤ 1000000) (hB : B ≤ W.heap.size)
    (h : ∀ l' ad' cap' w1, Hid (l' = l ++ m) → OwnP w1 B (.slice ad' l'.length cap') l' → Below B W w1 → wpList Try.prog ops Q rest (a.put o.dst (.slice ad' l'.length cap')) w1) :
    wpList Try.prog ops Q (o :: rest) a W := by
  obtain ⟨i0, hi, hz0, hz1, hz2⟩ := info_parts infoPkt
  obtain rfl : n1 = l.length := hown.rd.2
  have hown' : W.ownsRow B 27 12 (.slice ad1 l.length cap1) l.length (l.flatMap encP) := hown
  refine Own.wpList_append2_any _ hgd s x 49 ho B 27 i0 (pval zero) 12 112 Try.underlying49 hi hz0 hz1 hz2 rfl (by decide) (.slice ad1 l.length cap1) l.length (l.flatMap encP) hs hown' ad2 n2 cap2 (m.flatMap encP) hx (by rw [Rw.flat_len encP_len, hn2]) hnil (cells_of hrd) (encP_one m) (by unfold maxLen; omega) (by omega) hB ?_
  intro v' w1 h1 h2 h3
  rw [← List.flatMap_append, hn2, ← List.length_append] at h1
  have ho1 : OwnP w1 B v' (l ++ m) := h1
  obtain ⟨ad', cap', rfl, -⟩ := Own.shape h1
  exact h _ ad' cap' w1 (Lib.hid rfl) ho1 ((Below.refl _ _).grown h2 hB fun k e => (ownP_at hown e).1)
theorem twiceP_step {W : World} {ops : Array Oper} {rest : List Oper} {o : Oper} {a : Act} {Q : Exit → Act → World → Prop} (hgd : Region.wanted o (yielded ops a.tmps) = true) (s x : Operand)
    (ho : o.op = .call { callee := .builtin .append, args := #[s, x], argTypes := #[49, 49] })
    (B : Nat) (ad1 : Option Addr) (n1 cap1 : Nat) (l : List Pk) (hs : a.eval s = .slice ad1 n1 cap1) (hx : a.eval x = .slice ad1 n1 cap1) (hown : OwnP W B (.slice ad1 n1 cap1) l) (hlen : l.length ≤ 1000000) (hB : B ≤ W.heap.size)
    (h : ∀ l' ad' cap' w1, Hid (l' = l ++ l) → RdP w1 ad' l' → OwnP w1 B (.slice ad1 n1 cap1) l → Below B W w1 → wpList Try.prog ops Q rest (a.put o.dst (.slice ad' l'.length cap')) w1) :
    wpList Try.prog ops Q (o :: rest) a W := by
  obtain ⟨i0, hi, hz0, hz1, hz2⟩ := info_parts infoPkt
  obtain rfl : n1 = l.length := hown.rd.2
  have hown' : W.ownsRow B 27 12 (.slice ad1 l.length cap1) l.length (l.flatMap encP) := hown
  refine Own.wpList_append_twice _ hgd s x 49 ho B 27 i0 (pval zero) 12 112 Try.underlying49 hi hz0 hz1 hz2 rfl (by decide) (.slice ad1 l.length cap1) l.length (l.flatMap encP) hs hx hown' (encP_one l) (by unfold maxLen; omega) (by omega) hB ?_
  intro v' w1 h1 h2 h3
  rw [← List.flatMap_append, ← List.length_append] at h1
  have ho1 : OwnP w1 B v' (l ++ l) := h1
  obtain ⟨ad', cap', rfl, -⟩ := Own.shape h1
  exact h _ ad' cap' w1 (Lib.hid rfl) ho1.rd.1 h2 ((Below.refl _ _).grown h3 hB fun k e => (ownP_at hown e).1)
/-! Two that change places. -/
/-- Packets that lie in a block from its head on, and may be written. -/
structure Lie (w : World) (g : Nat) (l : List Pk) : Prop where
  lt : g < w.heap.size
  at_ : ∀ i, i < l.length → w.rangeAt g (i * 12) (encP (l.getD i default))
  free : ∀ i, i < l.length → w.there g (i * 12) 12
theorem OwnP.lie {w : World} {base n cap g : Nat} {l : List Pk} (h : OwnP w base (.slice (some ⟨g, 0, none⟩) n cap) l) : Lie w g l ∧ base ≤ g := by
  have h' : w.ownsRow base 27 12 (.slice (some ⟨g, 0, none⟩) n cap) l.length (l.flatMap encP) := h
  obtain ⟨hl, ⟨h2, -⟩ | ⟨g', cap', cur, h2, hb, hg, hnc, hcm, hcs, htake⟩⟩ := h'
  · cases h2
  · cases h2
    have hlt : g < w.heap.size := (Array.getElem?_eq_some_iff.1 hg).1
    have hrd := h.rd.1
    refine ⟨⟨hlt, fun i hi => ?_, fun i hi j hj => ⟨?_, frozen_of_row w g _ _ _ hg⟩⟩, hb⟩
    · rcases hrd with h0 | ⟨b, off, e, -, hc⟩
      · rw [h0] at hi; simp at hi
      · cases e
        have := hc i hi
        rwa [Nat.zero_add] at this
    · rw [cell_of_row w g _ _ _ _ hg]
      have : i * 12 + j < cur.size := by rw [hcs]; omega
      simp [this]
theorem Lie.rd {w : World} {g : Nat} {l : List Pk} (h : Lie w g l) : RdP w (some ⟨g, 0, none⟩) l := .inr ⟨g, 0, rfl, h.lt, fun i hi => by rw [Nat.zero_add]; exact h.at_ i hi⟩
theorem Lie.below {w w' : World} {g : Nat} {l : List Pk} (h : Lie w g l) (hB : Below w.heap.size w w') : Lie w' g l :=
  ⟨Nat.lt_of_lt_of_le h.lt hB.size, fun i hi j u hu => (hB.cell (p := ⟨g, _, none⟩) h.lt).trans (h.at_ i hi j u hu), fun i hi j hj => by
    have h1 := h.free i hi j hj
    have hb := hB.block g h.lt
    rw [World.cell?_of_block (a := ⟨g, i * 12 + j, none⟩) hb, World.frozen?_of_block (a := ⟨g, i * 12 + j, none⟩) hb]
    exact h1⟩
theorem below_setCells {n : Nat} {w : World} {g : Nat} (hg : n ≤ g) : ∀ (vs : List Value) (o : Nat) (W : World), Below n w W → Below n w (W.setCells g o vs)
  | [], _, _, h => h
  | v :: r, o, W, h => by
    rw [World.setCells]
    exact below_setCells hg r (o + 1) _ (h.setCell (p := ⟨g, o, none⟩) hg v)
theorem size_setCells (g : Nat) : ∀ (vs : List Value) (o : Nat) (W : World), (W.setCells g o vs).heap.size = W.heap.size
  | [], _, _ => rfl
  | v :: r, o, W => by rw [World.setCells, size_setCells g r (o + 1)]; simp
theorem Lie.put {w : World} {g : Nat} {l : List Pk} (h : Lie w g l) {i : Nat} (hi : i < l.length) (x : Pk) : Lie (w.setCells g (i * 12) (encP x)) g (l.set i x) := by
  refine ⟨by rw [size_setCells]; exact h.lt, fun k hk => ?_, fun k hk => World.there_setCells (h.free k (by simpa using hk)) _ _ _⟩
  rw [List.length_set] at hk
  by_cases e : i = k
  · subst e
    rw [show (l.set i x).getD i default = x by simp [List.getD, hk]]
    exact World.rangeAt_setCells_same _ _ _ _ (h.free i hi)
  · rw [show (l.set i x).getD k default = l.getD k default by simp [List.getD, List.getElem?_set, e]]
    exact World.rangeAt_setCells_apart (h.at_ k hk) _ _ _ (.inr (by rw [encP_len, encP_len]; omega))
def swp (l : List Pk) (i j : Nat) : List Pk := (l.set i (l.getD j default)).set j (l.getD i default)
theorem swp_len (l : List Pk) (i j : Nat) : (swp l i j).length = l.length := by simp [swp]
theorem swp_perm (l : List Pk) {i j : Nat} (hi : i < l.length) (hj : j < l.length) : (swp l i j).Perm l := by
  unfold swp
  rw [show l.getD j default = l[j] by simp [List.getD, hj], show l.getD i default = l[i] by simp [List.getD, hi]]
  exact List.set_set_perm hi hj
theorem Lie.swap {w : World} {g : Nat} {l : List Pk} (h : Lie w g l) {i j : Nat} (hi : i < l.length) (hj : j < l.length) : Lie ((w.setCells g (i * 12) (encP (l.getD j default))).setCells g (j * 12) (encP (l.getD i default))) g (swp l i j) :=
  (h.put hi _).put (by simpa using hj) _
/-- A list of the call's own as a loop sees it: it reads so; where it has one, its block. -/
def Lst (B : Nat) (w : World) (ad : Option Addr) (l : List Pk) : Prop := RdP w ad l ∧ (0 < l.length → ∃ g, ad = some ⟨g, 0, none⟩ ∧ B ≤ g ∧ Lie w g l)
theorem OwnP.lst {w : World} {base n cap : Nat} {ad : Option Addr} {l : List Pk} (h : OwnP w base (.slice ad n cap) l) : Lst base w ad l := by
  refine ⟨h.rd.1, fun h0 => ?_⟩
  rcases h.rd.1 with rfl | ⟨b, off, rfl, -, -⟩
  · simp at h0
  · have h' : w.ownsRow base 27 12 (.slice (some ⟨b, off, none⟩) n cap) l.length (l.flatMap encP) := h
    obtain ⟨hl, ⟨h2, -⟩ | ⟨g', cap', cur, h2, -⟩⟩ := h'
    · cases h2
    · cases h2
      exact ⟨b, rfl, h.lie.2, h.lie.1⟩
theorem Lst.below {B : Nat} {w w' : World} {ad : Option Addr} {l : List Pk} (h : Lst B w ad l) (hB : Below w.heap.size w w') : Lst B w' ad l :=
  ⟨Rw.Rd.below h.1 hB, fun h0 => by
    obtain ⟨g, e, hg, hl⟩ := h.2 h0
    exact ⟨g, e, hg, hl.below hB⟩⟩
theorem Lie.drew {w : World} {g : Nat} {l : List Pk} (h : Lie w g l) : Lie w.drew g l := h.below (Below.refl _ _).drew
theorem infoPk1 : (Try.prog.info? 27).map (·.size) = some 12 := by kernel_rfl
/-- A packet out of such a block, as one step. -/
theorem load_step {o : Oper} {a : Act} {K : Act → World → Prop} {Q : Exit → Act → World → Prop} {w : World} (x : Operand) (ho : o.op = .load 27 x)
    (g i : Nat) (v : Value) (hx : a.eval x = .pointer (some ⟨g, i * 12, none⟩)) (hl : Hid (∃ l p, Lie w g l ∧ i < l.length ∧ l.getD i default = p ∧ v = pval p)) (h : K (a.put o.dst v) w) :
    Oper.wp Try.prog o a w K Q := by
  obtain ⟨l, p, hl', hi, rfl, rfl⟩ := hl.out
  exact wp_load_mid 27 x ho g (i * 12) hx (encP (l.getD i default)) _ (hl'.at_ i hi) Try.underlying27 rfl infoPk1 h
/-- A packet into such a block. -/
theorem store_step {o : Oper} {a : Act} {K : Act → World → Prop} {Q : Exit → Act → World → Prop} {w : World} (x y : Operand) (ho : o.op = .store 27 x y)
    (g i : Nat) (v : Value) (W : World) (hx : a.eval x = .pointer (some ⟨g, i * 12, none⟩)) (hy : a.eval y = v) (hl : Hid (∃ l p, Lie w g l ∧ i < l.length ∧ v = pval p ∧ W = w.setCells g (i * 12) (encP p))) (h : K (a.put o.dst undef) W) :
    Oper.wp Try.prog o a w K Q := by
  obtain ⟨l, p, hl', hi, rfl, rfl⟩ := hl.out
  exact wp_store_mid 27 x y ho g (i * 12) p.cells hx hy (hl'.free i hi) infoPk1 (Array.all_eq_true_iff_forall_mem.2 (fun v hv => encP_one [p] v (by simpa [encP] using hv))) h
/-- Two that change places, all told ahead. -/
theorem swap_facts {B : Nat} {w wr : World} {g n : Nat} {ls l1 : List Pk} {k m : Nat} (hlie : Lie wr g ls) (hn : ls.length = n) (hk : k < n) (hm : m < n) (hp : ls.Perm l1) (hg : B ≤ g) (hB : Below B w wr) :
    ∃ W1 W2 vk vm, Hid (∃ l p, Lie wr.drew g l ∧ m < l.length ∧ l.getD m default = p ∧ vm = pval p) ∧ Hid (∃ l p, Lie wr.drew g l ∧ k < l.length ∧ l.getD k default = p ∧ vk = pval p) ∧
      Hid (∃ l p, Lie wr.drew g l ∧ k < l.length ∧ vm = pval p ∧ W1 = wr.drew.setCells g (k * 12) (encP p)) ∧ Hid (∃ l p, Lie W1 g l ∧ m < l.length ∧ vk = pval p ∧ W2 = W1.setCells g (m * 12) (encP p)) ∧
      Hid ((swp ls k m).Perm l1 ∧ Lst B W2 (some ⟨g, 0, none⟩) (swp ls k m) ∧ Below B w W2) := by
  subst hn
  have h0 := hlie.drew
  have h1 := h0.put hk (ls.getD m default)
  refine ⟨_, _, _, _, Lib.hid ⟨ls, _, h0, hm, rfl, rfl⟩, Lib.hid ⟨ls, _, h0, hk, rfl, rfl⟩, Lib.hid ⟨ls, _, h0, hk, rfl, rfl⟩, Lib.hid ⟨_, _, h1, by simpa using hm, rfl, rfl⟩, Lib.hid ⟨(swp_perm ls hk hm).trans hp, ?_, ?_⟩⟩
  · have := h0.swap hk hm
    exact ⟨this.rd, fun _ => ⟨g, rfl, hg, this⟩⟩
  · exact below_setCells hg _ _ _ (below_setCells hg _ _ _ hB.drew)
theorem perm_any {l m : List Pk} (h : l.Perm m) (f : Pk → Bool) : l.any f = m.any f := by
  rw [Bool.eq_iff_iff, List.any_eq_true, List.any_eq_true]
  exact ⟨fun ⟨x, hx, hf⟩ => ⟨x, h.mem_iff.1 hx, hf⟩, fun ⟨x, hx, hf⟩ => ⟨x, h.mem_iff.2 hx, hf⟩⟩
end Go.Proofs.Ytepcbklokcfbfaa.Att
