/- Bytes read as items: what a law wants of it. -/
import Derived.Test.YtglnclcoinpakaaBufP
namespace Go.Proofs.Ytglnclcoinpakaa.Buf
open Go.ChangeShapes Go.WideShapes Go.ChangeAt Go.RowKit
open Go.Proofs.Ytglnclcoinpakaa.Byt Go.Proofs.Ytglnclcoinpakaa.Units Go.Proofs.Ytglnclcoinpakaa.BufM
set_option linter.unusedVariables false

theorem get_bad (t : It) (l : List UInt8) {x e : Nat} {bs r : List UInt8} (h : t.get l = (x, bs, r, e)) : e = 0 ∨ (x = 0 ∧ bs = [] ∧ r = []) := by
  have hF : ∀ n, getF l n = ((getF l n).1, (getF l n).2.1, (getF l n).2.2) := fun n => rfl
  unfold It.get at h
  split at h
  · simp only [Prod.mk.injEq] at h
    obtain ⟨rfl, rfl, h⟩ := h
    rcases (getF_err (l := l) (n := 1) (x := (getF l 1).1) (r := r) (e := e) (by rw [← h])).2 with h | ⟨h1, h2, _⟩
    · exact .inl h
    · exact .inr ⟨h1, rfl, h2⟩
  split at h
  · simp only [Prod.mk.injEq] at h
    obtain ⟨rfl, rfl, h⟩ := h
    rcases (getF_err (l := l) (n := t.n) (x := (getF l t.n).1) (r := r) (e := e) (by rw [← h])).2 with h | ⟨h1, h2, _⟩
    · exact .inl h
    · exact .inr ⟨h1, rfl, h2⟩
  split at h
  · simp only [Prod.mk.injEq] at h
    obtain ⟨rfl, h⟩ := h
    rcases getB_err h with h | ⟨h1, h2⟩
    · exact .inl h
    · exact .inr ⟨rfl, h1, h2⟩
  · simp only [Prod.mk.injEq] at h
    obtain ⟨rfl, rfl, h⟩ := h
    rcases getN_err (l := l) (x := (getN l).1) (r := r) (e := e) (by rw [← h]) with h | ⟨h1, h2, _⟩
    · exact .inl h
    · exact .inr ⟨h1, rfl, h2⟩
theorem get_nil (t : It) : ∃ e, e ≠ 0 ∧ t.get [] = (0, [], [], e) := by
  have hF : ∀ n : Int, ∃ e, e ≠ 0 ∧ getF [] n = (0, [], e) := fun n => by
    unfold getF
    by_cases h : n < 1 ∨ 8 < n
    · rw [if_pos h]; exact ⟨1, by omega, rfl⟩
    · rw [if_neg h, if_pos (by simp; omega)]; exact ⟨3, by omega, rfl⟩
  unfold It.get
  split
  · obtain ⟨e, he, h⟩ := hF 1
    exact ⟨e, he, by rw [h]⟩
  split
  · obtain ⟨e, he, h⟩ := hF t.n
    exact ⟨e, he, by rw [h]⟩
  split
  · refine ⟨3, by omega, ?_⟩
    unfold getB
    rw [getN_nil]
    rfl
  · exact ⟨3, by omega, by rw [getN_nil]⟩
/-- Bytes of the call's own, each of which may be turned. -/
def InOk (w : World) (g n : Nat) : Prop := ∃ cur, Blk w g 5 cur ∧ ∀ i, i < n → ∃ x : Nat, x < 256 ∧ cur[i]? = some (.int .u8 (x : Int))
theorem InOk.put {w : World} {g n : Nat} (h : InOk w g n) (k : Nat) (x : Nat) (hx : x < 256) : InOk (w.setCell ⟨g, k, none⟩ (.int .u8 (x : Int))) g n := by
  obtain ⟨cur, hb, hc⟩ := h
  refine ⟨_, hb.put k _, fun i hi => ?_⟩
  by_cases he : k = i
  · subst he
    obtain ⟨y, _, hy⟩ := hc k hi
    rw [Array.getElem?_setIfInBounds_self_of_lt (Array.getElem?_eq_some_iff.1 hy).1]
    exact ⟨x, hx, rfl⟩
  · rw [Array.getElem?_setIfInBounds_ne he]
    exact hc i hi
theorem InOk.of_own {w : World} {base cap : Nat} {ad : Option Addr} {l : List UInt8} (h : OwnB w base (.slice ad l.length cap) l) (h0 : 0 < l.length) : ∃ g, ad = some ⟨g, 0, none⟩ ∧ base ≤ g ∧ g < w.heap.size ∧ InOk w g l.length := by
  rcases h.2 with ⟨hv, hz⟩ | ⟨g, cap', cur, hv, hb, hg, hn, hm, hs, ht⟩
  · omega
  · simp only [Value.slice.injEq] at hv
    obtain ⟨rfl, _, rfl⟩ := hv
    refine ⟨g, rfl, hb, (Array.getElem?_eq_some_iff.1 hg).1, cur, hg, fun i hi => ?_⟩
    refine ⟨(l.getD i 0).toNat, (l.getD i 0).toNat_lt, ?_⟩
    have h1 : (cur.toList.take (l.length * 1))[i]? = (bvs l)[i]? := by rw [ht]
    rw [Nat.mul_one, List.getElem?_take_of_lt hi, Array.getElem?_toList] at h1
    rw [h1]
    simp [bvs, bv, hi]
/-- The bytes that were handed in, while they are turned one by one. -/
def Turned (w3 wr : World) (ain : Option Addr) (lo hi n : Nat) : Prop := (n = 0 ∧ wr = w3) ∨ ∃ gi, ain = some ⟨gi, 0, none⟩ ∧ lo ≤ gi ∧ gi < hi ∧ InOk wr gi n ∧ RStep w3 wr gi
theorem Turned.below {w3 wr : World} {ain : Option Addr} {lo hi n : Nat} (h : Turned w3 wr ain lo hi n) : Below lo w3 wr := by
  rcases h with ⟨_, rfl⟩ | ⟨gi, _, h1, _, _, h2⟩
  · exact Below.refl _ _
  · exact h2.below.mono h1
theorem Turned.block {w3 wr : World} {ain : Option Addr} {lo hi n : Nat} (h : Turned w3 wr ain lo hi n) : ∀ k, hi ≤ k → k < w3.heap.size → wr.heap[k]? = w3.heap[k]? := by
  rcases h with ⟨_, rfl⟩ | ⟨gi, _, h1, h3, _, h2⟩
  · exact fun _ _ _ => rfl
  · exact fun k h4 h5 => h2.block k (by omega) h5
theorem Turned.put {w3 wr : World} {gi lo hi n : Nat} (h : Turned w3 wr (some ⟨gi, 0, none⟩) lo hi n) (hn : 0 < n) (k x : Nat) (hx : x < 256) : Turned w3 (wr.setCell ⟨gi, k, none⟩ (.int .u8 (x : Int))) (some ⟨gi, 0, none⟩) lo hi n := by
  rcases h with ⟨h0, _⟩ | ⟨gi', e, h1, h3, h4, h2⟩
  · omega
  · cases e
    exact .inr ⟨gi, rfl, h1, h3, h4.put k x hx, h2.trans ⟨(Below.refl _ _).setCell (p := ⟨gi, k, none⟩) (Nat.le_refl _) _, fun j h5 h6 => Below.heap_setCell _ _ _ _ (show j ≠ gi by omega)⟩⟩
/-- An item read by the program, and what becomes of the reader. -/
theorem read_it (g G : Nat) (e : Nat) (R : List UInt8) (t : It) (w : World) {x er : Nat} {bs R' : List UInt8} (h : RR w g ((e : Int), R)) (ht : t.ok w G) (hg : t.get R = (x, bs, R', er)) (hR : e ≠ 0 → R = []) :
    Calls Try.prog 14 #[.pointer (some ⟨g, 0, none⟩), t.v] w (fun en w' => ∃ ad cap, en = .returned (.tuple #[.int .u64 (x : Int), .slice ad bs.length cap]) ∧ Hid (∀ W, Below w'.heap.size w' W → (convert 25 9 (.slice ad bs.length cap)).run Try.prog W = .ok (.string (strB bs)) W) ∧
      Hid (RR w' g (((if e = 0 then er else e : Nat) : Int), R')) ∧ Hid (RStep w w' g)) := by
  refine (read_item g G _ t w h ht).mono fun en w' hh => ?_
  unfold RdPost at hh
  simp only [hg] at hh
  obtain ⟨ad, cap, rfl, ho, hr, hs⟩ := hh
  refine ⟨ad, cap, rfl, Lib.hid fun W hW => ho.str hW, Lib.hid ?_, Lib.hid hs⟩
  by_cases he : e = 0
  · subst he
    rw [if_pos rfl]
    rcases get_bad t R hg with rfl | ⟨rfl, rfl, rfl⟩
    · exact hr
    · by_cases h0 : er = 0
      · subst h0; exact hr
      · rw [upd_bad _ _ h0] at hr; exact hr
  · rw [if_neg he]
    have hRn := hR he
    subst hRn
    obtain ⟨e2, he2, hn⟩ := get_nil t
    rw [hn] at hg
    simp only [Prod.mk.injEq] at hg
    obtain ⟨rfl, rfl, rfl, rfl⟩ := hg
    rw [upd_bad _ _ he2] at hr
    simp only at hr
    rw [if_neg (show ¬ ((e : Nat) : Int) = 0 by omega)] at hr
    exact hr
/-- The same item read by the document. -/
theorem get_it (G : Nat) (ad : Option Addr) (len cap : Nat) (R : List UInt8) (t : It) (w : World) {x er : Nat} {bs R' : List UInt8} (h : RdS w G ad len cap R) (hG : G ≤ w.heap.size) (ht : t.ok w G) (hg : t.get R = (x, bs, R', er)) :
    Calls Try.prog 15 #[.slice ad len cap, t.v] w (fun en w' => ∃ ad1 len1 cap1 ad2 len2 cap2, en = .returned (.tuple #[.int .u64 (x : Int), .slice ad1 len1 cap1, .slice ad2 len2 cap2, .int .i64 (er : Int)]) ∧ (convert 25 9 (.slice ad1 len1 cap1)).run Try.prog w' = .ok (.string (strB bs)) w' ∧
      Hid (RdS w' G ad2 len2 cap2 R') ∧ Hid (Below w.heap.size w w')) := by
  refine (get_item G ad len cap R t w h hG ht.n.2 ht.k).mono fun en w' hh => ?_
  unfold GtPost at hh
  simp only [hg] at hh
  obtain ⟨ad1, len1, cap1, ad2, len2, cap2, rfl, h1, h2, hB⟩ := hh
  exact ⟨ad1, len1, cap1, ad2, len2, cap2, rfl, run_str_any h1.rd h1.len_.symm, Lib.hid h2, Lib.hid hB⟩
end Go.Proofs.Ytglnclcoinpakaa.Buf
