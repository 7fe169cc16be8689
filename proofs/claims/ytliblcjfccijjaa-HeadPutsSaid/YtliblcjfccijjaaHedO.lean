/- A head as bytes, the document's own (layer 9): Bytes. An append as one step (for every layer with []byte). -/
import Derived.Test.YtliblcjfccijjaaHedI
import Derived.Test.YtliblcjfccijjaaHedD
namespace Go.Proofs.Ytliblcjfccijjaa.Hed
open Go.ChangeShapes Go.WideShapes Go.ChangeAt Go.RowKit Go.Deep
open Go.Proofs.Ytliblcjfccijjaa.Byt Go.Proofs.Ytliblcjfccijjaa.Key Go.Proofs.Ytliblcjfccijjaa.Buf Go.Proofs.Ytliblcjfccijjaa.BufM
set_option linter.unusedVariables false
set_option linter.unusedSimpArgs false
/-- append(s, x...) of bytes. -/
theorem app_step {W : World} {ops : Array Oper} {rest : List Oper} {o : Oper} {a : Act} {Q : Exit → Act → World → Prop} (hgd : o.guard = none) (s x : Operand)
    (ho : o.op = .call { callee := .builtin .append, args := #[s, x], argTypes := #[25, 25] })
    (B : Nat) (ad1 : Option Addr) (n1 cap1 : Nat) (l : List UInt8) (hs : a.eval s = .slice ad1 n1 cap1) (hown : OwnB W B (.slice ad1 n1 cap1) l)
    (ad2 : Option Addr) (n2 cap2 : Nat) (m : List UInt8) (hx : a.eval x = .slice ad2 n2 cap2) (hn2 : n2 = m.length) (hrd : RdB W ad2 m) (hnil : ad2 = none → cap2 = 0) (hlen : l.length + m.length ≤ 1000000) (hB : B ≤ W.heap.size)
    (h : ∀ l' ad' cap' w1, Hid (l' = l ++ m) → OwnB w1 B (.slice ad' l'.length cap') l' → Below B W w1 → (∀ k, k < W.heap.size → B ≤ k → some k ≠ (Value.slice ad1 n1 cap1).ownBlock → w1.heap[k]? = W.heap[k]?) → wpList Try.prog ops Q rest (a.put o.dst (.slice ad' l'.length cap')) w1) :
    wpList Try.prog ops Q (o :: rest) a W := by
  obtain ⟨i0, hi, hz0, hz1, hz2⟩ := info_parts infoByte
  obtain rfl : n1 = l.length := hown.rd.2
  have hown' := hown
  unfold OwnB at hown'
  refine Own.wpList_append2_any _ hgd s x 25 ho B 5 i0 (.int .u8 0) 1 1 Try.underlying25 hi hz0 hz1 hz2 rfl (by decide) (.slice ad1 l.length cap1) l.length (bvs l) hs hown' ad2 n2 cap2 (bvs m) hx (by rw [bvs_len, Nat.mul_one, hn2]) (nil_none hn2.symm hrd hnil) (RdB.cells hrd) (bvs_oneCell _) (by unfold maxLen; omega) (by omega) hB ?_
  intro v' w1 h1 h2 h3
  rw [← bvs_append, hn2, ← List.length_append] at h1
  have ho1 : OwnB w1 B v' (l ++ m) := h1
  obtain ⟨ad', cap', rfl, -⟩ := Own.shape ho1
  refine h _ ad' cap' w1 (Lib.hid rfl) ho1 ((Below.refl _ _).grown h2 hB fun k e => (own_at hown e).1) fun k hk _ hne => h2.block k hk hne
/-- Bytes that are written beside a box of the call's own. -/
structure AS (w : World) (bp : Nat) (cs : Array Value) (ad : Option Addr) (cap : Nat) (l : List UInt8) (W : World) : Prop where
  box : Blk W bp 27 cs
  own : OwnB W (bp + 1) (.slice ad l.length cap) l
  below : Below bp w W
theorem AS.kept {w W V : World} {bp : Nat} {cs : Array Value} {ad : Option Addr} {cap : Nat} {l : List UInt8} (h : AS w bp cs ad cap l W) (hB : Below W.heap.size W V) : AS w bp cs ad cap l V :=
  ⟨h.box.below hB, h.own.below hB, h.below.trans (hB.mono (Nat.le_of_lt h.box.lt))⟩
theorem AS.step {w W V w1 : World} {bp : Nat} {cs : Array Value} {ad ad' : Option Addr} {cap cap' : Nat} {l l' : List UInt8} (h : AS w bp cs ad cap l W) (hB : Below W.heap.size W V)
    (h1 : OwnB w1 (bp + 1) (.slice ad' l'.length cap') l') (h2 : Below (bp + 1) V w1) : AS w bp cs ad' cap' l' w1 :=
  ⟨(h2.block bp (by omega)).trans (h.box.below hB), h1, (h.kept hB).below.trans (h2.mono (by omega))⟩
theorem AS.size {w W : World} {bp : Nat} {cs : Array Value} {ad : Option Addr} {cap : Nat} {l : List UInt8} (h : AS w bp cs ad cap l W) : bp + 1 ≤ W.heap.size := h.box.lt
theorem kb_mod (x : Int) : bv (kb x) = .int .u8 (x % 256) := by rw [kb_bv, IntKind.wrap_u8]
/-- A head's bytes. -/
def headB (p : Pk) : List UInt8 := if flo p.kind then [kb p.kind] ++ [kb p.hops] ++ sev (un p.key.1) ++ [kb p.key.2.1] ++ fixB (un p.key.2.2) 4 else [kb p.kind]
set_option maxRecDepth 100000 in
set_option maxHeartbeats 2000000 in
theorem rhead_any (p : Pk) (w : World) :
    Calls Try.prog 19 #[pval p] w (Gives (headB p) w) := by
  have CF := Lib.hid (fun W => rflood_any p.kind W)
  have CN : Hid (∀ W, Calls Try.prog 49 #[.int .u64 (IntKind.u64.wrap p.key.1)] W (Gives (sev (un p.key.1)) W)) := Lib.hid (fun W => by rw [← un_val]; exact rNum_any _ (un_lt _) W)
  have CX : Hid (∀ W, Calls Try.prog 50 #[.int .u64 (IntKind.u64.wrap p.key.2.2), .int .i64 4] W (Gives (fixB (un p.key.2.2) 4) W)) := Lib.hid (fun W => by rw [← un_val]; exact rFixed_any _ 4 (un_lt _) (by omega) W)
  have hs10 := sev_len10 (un p.key.1) (un_lt _)
  have hf4 := Lib.hid (fixB_len 4 (un p.key.2.2))
  obtain ⟨W0, hW0⟩ : ∃ W0, Hid (W0 = (w.alloc (.cells p.cells 27)).alloc (.cells #[.int .u8 (p.kind % 256)] 5)) := ⟨_, Lib.hid rfl⟩
  have H0 : Hid (AS w w.heap.size p.cells (some ⟨w.heap.size + 1, 0, none⟩) 1 [kb p.kind] W0) := Lib.hid (by
    have hB : Below w.heap.size w (w.alloc (.cells p.cells 27)) := (Below.refl _ _).alloc (Nat.le_refl _) _
    have h1 := own_one (w.alloc (.cells p.cells 27)) (kb p.kind)
    rw [kb_mod, World.size_alloc] at h1
    rw [hW0.out]
    exact ⟨(Blk.new _ _ _).alloc _, h1, hB.alloc (by simp) _⟩)
  have HC : Hid (∀ ad cap l W, AS w w.heap.size p.cells ad cap l W → _ ∧ _) := Lib.hid (fun ad cap l W h => blk_cells h.box)
  have HG : Hid (∀ ad cap l W, AS w w.heap.size p.cells ad cap l W → l = headB p → Gives (headB p) w (.returned (.slice ad l.length cap)) W) := Lib.hid (fun ad cap l W h hl => by
    rw [← hl]
    refine gives_of ?_ h.below
    obtain ⟨e, h2⟩ := h.own
    refine ⟨e, h2.imp id fun ⟨g', cap', cur, a1, a2, a3⟩ => ⟨g', cap', cur, a1, by omega, a3⟩⟩)
  have HB1 : Hid (∀ ad cap l W (x : Int), AS w w.heap.size p.cells ad cap l W → l.length ≤ 1000 → Below W.heap.size W (W.alloc (.cells #[.int .u8 (x % 256)] 5)) ∧ OwnB (W.alloc (.cells #[.int .u8 (x % 256)] 5)) (w.heap.size + 1) (.slice ad l.length cap) l ∧ RdB (W.alloc (.cells #[.int .u8 (x % 256)] 5)) (some ⟨W.heap.size, 0, none⟩) [kb x] ∧ w.heap.size + 1 ≤ (W.alloc (.cells #[.int .u8 (x % 256)] 5)).heap.size) := Lib.hid (fun ad cap l W x h hl => by
    have hB : Below W.heap.size W (W.alloc (.cells #[.int .u8 (x % 256)] 5)) := (Below.refl _ _).alloc (Nat.le_refl _) _
    have h1 := own_one W (kb x)
    rw [kb_mod] at h1
    exact ⟨hB, h.own.below hB, h1.rd.1, by rw [World.size_alloc]; have := h.size; omega⟩)
  have HT : Hid (flo p.kind = true → headB p = [kb p.kind] ++ [kb p.hops] ++ sev (un p.key.1) ++ [kb p.key.2.1] ++ fixB (un p.key.2.2) 4) := Lib.hid (fun h => by unfold headB; rw [if_pos h])
  have HN : Hid (flo p.kind = false → headB p = [kb p.kind]) := Lib.hid (fun h => by unfold headB; rw [if_neg (by rw [h]; decide)])
  generalize headB p = hb at *
  obtain ⟨fl, hfl⟩ : ∃ fl, Hid (flo p.kind = fl) := ⟨_, Lib.hid rfl⟩
  rw [hfl.out] at CF HT HN
  generalize sev (un p.key.1) = ls at *
  generalize fixB (un p.key.2.2) 4 = lx at *
  obtain ⟨kind, ⟨t, f, q⟩, hops, no, to, index, total, stamp, value, ad, cap, body⟩ := p
  unfold pval
  unfold Pk.cells at hW0
  unfold Pk.cells
  simp only at CF CN CX H0 HT HN hW0 HC ⊢
  obtain ⟨bp, hbp⟩ : ∃ bp, Hid (w.heap.size = bp) := ⟨_, Lib.hid rfl⟩
  go_enter Try.func19, Try.ntmps19
  go_upto_region 2 with fail
  rw [← hW0.out]
  obtain ⟨c0, c1, c2, c3, c4, c5, c6, c7, c8, c9, c10, c11⟩ := HC.out _ _ _ _ H0.out
  go_wp2_with fail
  refine (CF.out _).mono ?_; rintro e w' ⟨rfl, rfl⟩
  cases fl with
  | false =>
    have hv := HN.out (by simp)
    clear HN HT
    subst hv
    go_wp2_with fail
    go_ret
    exact HG.out _ _ _ _ H0.out rfl
  | true =>
    have hv := Lib.hid (HT.out (by simp))
    clear HN HT
    obtain ⟨x1, x2, x3, x4⟩ := HB1.out _ _ _ _ hops H0.out (by simp)
    have X1 := Lib.hid x1
    have X2 := Lib.hid x2
    have X3 := Lib.hid x3
    clear x1 x2 x3
    go_upto_region 4 with (at_builtin; refine app_step rfl _ _ rfl (w.heap.size + 1) (some ⟨w.heap.size + 1, 0, none⟩) 1 1 [kb kind] rfl X2.out _ 1 1 [kb hops] rfl rfl X3.out (fun e => by cases e) (by simp) x4 ?_; intro l1 ad1 cap1 w1 hl1 ho1 hb1 _)
    have H1 := Lib.hid (H0.out.step X1.out ho1 hb1)
    clear ho1 hb1 X1 X2 X3 x4 c0 c1 c2 c3 c4 c5 c6 c7 c8 c9 c10 c11
    obtain ⟨c0, c1, c2, c3, c4, c5, c6, c7, c8, c9, c10, c11⟩ := HC.out _ _ _ _ H1.out
    go_wp2_with fail
    refine (CN.out _).mono ?_; rintro e w2 ⟨ad2, cap2, rfl, ho2, hB2⟩
    have n1 : Hid (l1.length = 2) := Lib.hid (by rw [hl1.out]; rfl)
    have H2 := Lib.hid (H1.out.kept hB2)
    have X3 := Lib.hid ho2.rd.1
    have X4 := Lib.hid ho2.pos.2.2.1
    have x4 := H2.out.size
    clear ho2 hB2 c0 c1 c2 c3 c4 c5 c6 c7 c8 c9 c10 c11
    go_upto_region 5 with (at_builtin; refine app_step rfl _ _ rfl (w.heap.size + 1) ad1 _ cap1 l1 rfl H2.out.own ad2 _ cap2 ls rfl rfl X3.out X4.out (by have := n1.out; omega) x4 ?_; intro l2 ad3 cap3 w3 hl2 ho3 hb3 _)
    have H3 := Lib.hid (H2.out.step (Below.refl _ _) ho3 hb3)
    have n2 : Hid (l2.length = 2 + ls.length) := Lib.hid (by rw [hl2.out, List.length_append, n1.out])
    clear ho3 hb3 X3 X4 x4 H2 H1
    obtain ⟨c0, c1, c2, c3, c4, c5, c6, c7, c8, c9, c10, c11⟩ := HC.out _ _ _ _ H3.out
    obtain ⟨x1, x2, x3, x4⟩ := HB1.out _ _ _ _ f H3.out (by have := n2.out; omega)
    have X1 := Lib.hid x1
    have X2 := Lib.hid x2
    have X3 := Lib.hid x3
    clear x1 x2 x3
    go_upto_region 6 with (at_builtin; refine app_step rfl _ _ rfl (w.heap.size + 1) ad3 _ cap3 l2 rfl X2.out _ 1 1 [kb f] rfl rfl X3.out (fun e => by cases e) (by have := n2.out; simp; omega) x4 ?_; intro l3 ad4 cap4 w4 hl3 ho4 hb4 _)
    have H4 := Lib.hid (H3.out.step X1.out ho4 hb4)
    have n3 : Hid (l3.length = 3 + ls.length) := Lib.hid (by rw [hl3.out, List.length_append, n2.out]; simp; omega)
    clear ho4 hb4 X1 X2 X3 x4 H3 c0 c1 c2 c3 c4 c5 c6 c7 c8 c9 c10 c11
    obtain ⟨c0, c1, c2, c3, c4, c5, c6, c7, c8, c9, c10, c11⟩ := HC.out _ _ _ _ H4.out
    go_wp2_with fail
    refine (CX.out _).mono ?_; rintro e w5 ⟨ad5, cap5, rfl, ho5, hB5⟩
    have H5 := Lib.hid (H4.out.kept hB5)
    have X3 := Lib.hid ho5.rd.1
    have X4 := Lib.hid ho5.pos.2.2.1
    have x4 := H5.out.size
    clear ho5 hB5 c0 c1 c2 c3 c4 c5 c6 c7 c8 c9 c10 c11 H4
    go_upto_region 7 with (at_builtin; refine app_step rfl _ _ rfl (w.heap.size + 1) ad4 _ cap4 l3 rfl H5.out.own ad5 _ cap5 lx rfl rfl X3.out X4.out (by have := n3.out; have := hf4.out; omega) x4 ?_; intro l4 ad6 cap6 w6 hl4 ho6 hb6 _)
    have H6 := Lib.hid (H5.out.step (Below.refl _ _) ho6 hb6)
    clear ho6 hb6 X3 X4 x4 H5
    go_wp2_with fail
    go_ret
    exact HG.out _ _ _ _ H6.out (by rw [hl4.out, hl3.out, hl2.out, hl1.out]; exact hv.out.symm)
end Go.Proofs.Ytliblcjfccijjaa.Hed
