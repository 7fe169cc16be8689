/- Blocks that are known whole; what is touched between two worlds; small functions of package buf: tell, isWidth, isLast, fresh. -/
import Derived.Test.YtepcbklokcfbfaaBufU
import Derived.Laws.Rows
import Derived.Deep.WholeRow
namespace Go.Proofs.Ytepcbklokcfbfaa.Buf
open Go.ChangeShapes Go.WideShapes Go.ChangeAt Go.RowKit
open Go.Proofs.Ytepcbklokcfbfaa.Byt Go.Proofs.Ytepcbklokcfbfaa.Units Go.Proofs.Ytepcbklokcfbfaa.BufM
set_option linter.unusedVariables false

/-- A block that holds just these cells. -/
def Blk (w : World) (g : Nat) (t : TypeId) (cs : Array Value) : Prop := w.heap[g]? = some (.cells cs t (0, 0))
section
variable {w w' : World} {g : Nat} {t : TypeId} {cs : Array Value}
theorem Blk.lt (h : Blk w g t cs) : g < w.heap.size := (Array.getElem?_eq_some_iff.1 h).1
theorem Blk.cell (h : Blk w g t cs) (i : Nat) : w.cell? ⟨g, i, none⟩ = cs[i]? := cell_of_row w g i cs t (0, 0) h
theorem Blk.free (h : Blk w g t cs) (i : Nat) : w.frozen? ⟨g, i, none⟩ = false := frozen_of_row w g i cs t h
theorem Blk.new (w : World) (t : TypeId) (cs : Array Value) : Blk (w.alloc (.cells cs t)) w.heap.size t cs := heap_alloc_last w _
theorem Blk.drewN (h : Blk w g t cs) (n : Nat) : Blk (w.drewN n) g t cs := h
theorem Blk.alloc (h : Blk w g t cs) (o : Obj) : Blk (w.alloc o) g t cs := (Below.heap_alloc w o g h.lt).trans h
theorem Blk.put (h : Blk w g t cs) (i : Nat) (u : Value) : Blk (w.setCell ⟨g, i, none⟩ u) g t (cs.setIfInBounds i u) := heap_setCell_same _ _ _ _ _ _ h
theorem Blk.far (h : Blk w g t cs) {p : Addr} (hp : g ≠ p.block) (u : Value) : Blk (w.setCell p u) g t cs := (Below.heap_setCell w p u g hp).trans h
theorem Blk.below (h : Blk w g t cs) (hb : Below w.heap.size w w') : Blk w' g t cs := (hb.block g h.lt).trans h
theorem Blk.below2 {B : Nat} (h : Blk w g t cs) (hb : Below B w w') (hg : g < B) : Blk w' g t cs := (hb.block g hg).trans h
theorem Blk.grown {row : Option Nat} (h : Blk w g t cs) (hb : w.grownBy w' row) (hg : some g ≠ row) : Blk w' g t cs := (hb.block g h.lt hg).trans h
theorem Blk.ne {g' : Nat} {t' : TypeId} {cs' : Array Value} (h : Blk w g t cs) (h' : Blk w g' t' cs') (hne : t ≠ t') : g ≠ g' := by
  rintro rfl
  have := h.symm.trans h'
  injection this with this
  injection this with _ ht _
  exact hne ht
/-- A row of bytes of the call's own lies in no block of another type. -/
theorem own_ne {base : Nat} {v : Value} {l : List UInt8} (h : OwnB w base v l) (hg : Blk w g t cs) (hne : 5 ≠ t) : v.ownBlock ≠ some g := by
  rcases h.2 with ⟨rfl, _⟩ | ⟨g', cap, cur, rfl, _, hh, _⟩
  · simp [Value.ownBlock]
  · intro he
    have e : g' = g := by simpa [Value.ownBlock] using he
    subst e
    exact Blk.ne (w := w) (g := g') (t := 5) hh hg hne rfl
theorem own_at {base : Nat} {v : Value} {l : List UInt8} {k : Nat} (h : OwnB w base v l) (hv : v.ownBlock = some k) : base ≤ k ∧ k < w.heap.size := by
  have := World.ownsRow.lt h k hv
  exact this
/-- A row of bytes stays while its block does. -/
theorem own_kept {base : Nat} {v : Value} {l : List UInt8} (h : OwnB w base v l) (hs : w.heap.size ≤ w'.heap.size) (hk : ∀ k, v.ownBlock = some k → w'.heap[k]? = w.heap[k]?) : OwnB w' base v l := by
  refine ⟨h.1, ?_⟩
  rcases h.2 with h' | ⟨g', cap, cur, rfl, hb, hh, r⟩
  · exact .inl h'
  · exact .inr ⟨g', cap, cur, rfl, hb, (hk g' rfl).trans hh, r⟩
/-- Bytes that are read stay while their block does. -/
theorem rd_kept {ad : Option Addr} {l : List UInt8} (h : RdB w ad l) (hk : l ≠ [] → ∀ b o, ad = some ⟨b, o, none⟩ → b < w.heap.size → w'.heap[b]? = w.heap[b]?) : RdB w' ad l := by
  rcases h with h | ⟨b, off, e, hc⟩
  · exact .inl h
  · by_cases h0 : 0 < l.length
    · exact .inr ⟨b, off, e, fun i hi => (World.cell?_of_block (w := w) (a := ⟨b, off + i, none⟩) (hk (by intro hn; rw [hn] at h0; simp at h0) b off e (RdB.lt hc h0))).trans (hc i hi)⟩
    · exact .inl (List.eq_nil_of_length_eq_zero (by omega))
end

theorem ret0 {a b : Value} (h : a = b) : Ending.returned a = Ending.returned b := by rw [h]
theorem tell_yes (g : Nat) (t : TypeId) (cs : Array Value) (e : Int) (w : World) (hb : Blk w g t cs) (h0 : cs[0]? = some (.int .i64 0)) :
    Calls Try.prog 52 #[.pointer (some ⟨g, 0, none⟩), .int .i64 e] w fun en w' => en = .returned (.tuple #[]) ∧ w.setCell ⟨g, 0, none⟩ (.int .i64 e) = w' := by
  have c0 := hb.cell 0
  rw [h0] at c0
  have f0 := hb.free 0
  clear hb
  go_enter Try.func52, Try.ntmps52
  go_wp2_with fail
  go_returns
  exact ⟨rfl, rfl⟩
theorem tell_no (g : Nat) (t : TypeId) (cs : Array Value) (e e0 : Int) (w : World) (hb : Blk w g t cs) (h0 : cs[0]? = some (.int .i64 e0)) (hne : e0 ≠ 0) :
    Calls Try.prog 52 #[.pointer (some ⟨g, 0, none⟩), .int .i64 e] w fun en w' => en = .returned (.tuple #[]) ∧ w = w' := by
  have c0 := hb.cell 0
  rw [h0] at c0
  have hn : (e0 == 0) = false := by simpa using hne
  clear hb hne
  go_enter Try.func52, Try.ntmps52
  go_wp2_with fail
  go_returns
  exact ⟨rfl, rfl⟩
def isW (n : Int) : Bool := decide (1 ≤ n ∧ n ≤ 8)
/-- May a byte end a number in sevens, behind so many. -/
def lastB (y i : Nat) : Bool := decide (i = 0 ∨ (y ≠ 0 ∧ (i < 9 ∨ y = 1)))
theorem isLast_any (y i : Nat) (w : World) :
    Calls Try.prog 48 #[.int .u8 (y : Int), .int .i64 (i : Int)] w fun en w' => en = .returned (.bool (lastB y i)) ∧ w = w' := by
  have key : ∀ r, decide (i = 0 ∨ (y ≠ 0 ∧ (i < 9 ∨ y = 1))) = r → Hid (lastB y i = r) := fun r h => Lib.hid h
  have key := Lib.hid key
  by_cases h0 : i = 0
  · have H0 : ((i : Int) == 0) = true := by simp [h0]
    have HI := key.out _ (decide_eq_true (.inl h0))
    clear h0
    go_enter Try.func48, Try.ntmps48
    go_wp2_with fail
    go_ret
    exact ⟨ret_bool HI.out.symm, rfl⟩
  · have H0 : ((i : Int) == 0) = false := by simp; omega
    by_cases hy : y = 0
    · have HI := key.out _ (decide_eq_false (by omega))
      have HY : ((y : Int) != 0) = false := by simp [hy]
      clear h0 hy
      go_enter Try.func48, Try.ntmps48
      go_wp2_with fail
      go_ret
      exact ⟨ret_bool HI.out.symm, rfl⟩
    · have HY : ((y : Int) != 0) = true := by simp; omega
      by_cases h9 : i < 9
      · have HI := key.out _ (decide_eq_true (by omega))
        clear h0 hy
        go_enter Try.func48, Try.ntmps48
        go_wp2_with fail
        go_ret
        exact ⟨ret_bool HI.out.symm, rfl⟩
      · have h9' : ¬ (i : Int) < 9 := by omega
        by_cases h1 : y = 1
        · have HI := key.out _ (decide_eq_true (by omega))
          have H1 : ((y : Int) == 1) = true := by simp [h1]
          clear h0 hy h1 h9
          go_enter Try.func48, Try.ntmps48
          go_wp2_with fail
          go_ret
          exact ⟨ret_bool HI.out.symm, rfl⟩
        · have HI := key.out _ (decide_eq_false (by omega))
          have H1 : ((y : Int) == 1) = false := by simp; omega
          clear h0 hy h1 h9
          go_enter Try.func48, Try.ntmps48
          go_wp2_with fail
          go_ret
          exact ⟨ret_bool HI.out.symm, rfl⟩
theorem nil_none {w : World} {ad : Option Addr} {len cap : Nat} {l : List UInt8} (hlen : l.length = len) (hr : RdB w ad l) (hn : ad = none → cap = 0) : ad = none → len = 0 ∧ cap = 0 := by
  intro h
  rcases hr with h' | ⟨b, o, e, _⟩
  · exact ⟨by rw [← hlen, h']; rfl, hn h⟩
  · rw [h] at e; cases e
/-- Fresh: the same bytes in memory of the call's own. -/
theorem fresh_any (ad : Option Addr) (len cap : Nat) (l : List UInt8) (w : World) (hlen : l.length = len) (hm : len ≤ 140737488355328) (hr : RdB w ad l) (hn : ad = none → cap = 0) :
    Calls Try.prog 31 #[.slice ad len cap] w fun e w' => ∃ v, e = .returned v ∧ OwnB w' w.heap.size v l ∧ Below w.heap.size w w' := by
  obtain ⟨i0, hi, hz0, hz1, hz2⟩ := info_parts infoByte
  have c0 := World.ownsRow_nil w w.heap.size 5 1
  have c1 := Lib.hid (nil_none hlen hr hn)
  have c2 := Lib.hid (RdB.cells hr)
  have c3 := Lib.hid hlen
  clear hlen hr hn
  go_enter Try.func31, Try.ntmps31
  go_wp2_with (at_builtin; refine Own.wpList_append2_any _ rfl _ _ 25 rfl w.heap.size 5 i0 (.int .u8 0) 1 1 Try.underlying25 hi hz0 hz1 hz2 rfl (by decide) (.slice none 0 0) 0 [] rfl c0 ad len cap (bvs l) rfl (by rw [bvs_len, Nat.mul_one, c3.out]) c1.out c2.out (bvs_oneCell _) (by unfold maxLen; omega) (by omega) (Nat.le_refl _) ?_; intro v' w1 hown hgrow _)
  have HO : Hid (OwnB w1 w.heap.size v' l) := Lib.hid (by unfold OwnB; rw [c3.out]; simpa using hown)
  have HB : Hid (Below w.heap.size w w1) := Lib.hid ((Below.refl _ _).grown hgrow (Nat.le_refl _) (by simp [Value.ownBlock]))
  clear hown hgrow
  go_wp2_with fail
  go_ret
  exact ⟨v', rfl, HO.out, HB.out⟩
end Go.Proofs.Ytepcbklokcfbfaa.Buf
