/- The reader: what it is in memory, what a call of it touches; Read, fail, take, Left, Err, End. -/
import Derived.Test.YtepcbklokcfbfaaBufB
namespace Go.Proofs.Ytepcbklokcfbfaa.Buf
open Go.ChangeShapes Go.WideShapes Go.ChangeAt Go.RowKit
open Go.Proofs.Ytepcbklokcfbfaa.Byt Go.Proofs.Ytepcbklokcfbfaa.Units Go.Proofs.Ytepcbklokcfbfaa.BufM
set_option linter.unusedVariables false

/-- Behind a reading: what is wrong, what is left. -/
def upd (s : Int × List UInt8) (r : List UInt8 × Nat) : Int × List UInt8 := if r.2 = 0 then (s.1, r.1) else (if s.1 = 0 then (r.2 : Int) else s.1, [])
theorem upd_ok (s : Int × List UInt8) (l : List UInt8) : upd s (l, 0) = (s.1, l) := rfl
theorem upd_bad (s : Int × List UInt8) (l : List UInt8) {e : Nat} (h : e ≠ 0) : upd s (l, e) = (if s.1 = 0 then (e : Int) else s.1, []) := by unfold upd; rw [if_neg h]
/-- Where a slice lies: nowhere, or in a block below g. -/
def Lies (ad : Option Addr) (cap g : Nat) : Prop := (ad = none → cap = 0) ∧ (ad = none ∨ ∃ b off, ad = some ⟨b, off, none⟩ ∧ b < g)
theorem Lies.mono {ad : Option Addr} {cap g g' : Nat} (h : Lies ad cap g) (hg : g ≤ g') : Lies ad cap g' := by
  refine ⟨h.1, ?_⟩
  rcases h.2 with h' | ⟨b, off, e, hb⟩
  · exact .inl h'
  · exact .inr ⟨b, off, e, by omega⟩
theorem Lies.form {ad : Option Addr} {cap g : Nat} (h : Lies ad cap g) : ad = none ∨ ∃ b off, ad = some ⟨b, off, none⟩ := by
  rcases h.2 with h' | ⟨b, off, e, hb⟩
  · exact .inl h'
  · exact .inr ⟨b, off, e⟩
theorem own_lies {W : World} {base n cap : Nat} {ad : Option Addr} {l : List UInt8} (h : OwnB W base (.slice ad n cap) l) : Lies ad cap W.heap.size := by
  rcases h.2 with ⟨hv, hz⟩ | ⟨g, cap', cur, hv, hb, hg, _⟩
  · cases hv; exact ⟨fun _ => rfl, .inl rfl⟩
  · simp only [Value.slice.injEq] at hv
    obtain ⟨rfl, rfl, rfl⟩ := hv
    exact ⟨(fun h => by cases h), .inr ⟨g, 0, rfl, (Array.getElem?_eq_some_iff.1 hg).1⟩⟩
theorem Lies.nil (g : Nat) : Lies none 0 g := ⟨fun _ => rfl, .inl rfl⟩
/-- Bytes that lie below g stay while the blocks below g do. -/
theorem Lies.kept {w w' : World} {ad : Option Addr} {cap g : Nat} {l : List UInt8} (h : Lies ad cap g) (hr : RdB w ad l) (hk : ∀ b, b < g → w'.heap[b]? = w.heap[b]?) : RdB w' ad l :=
  rd_kept hr fun _ b o e _ => by
    rcases h.2 with h' | ⟨b', off, e', hb⟩
    · rw [h'] at e; cases e
    · rw [e'] at e; cases e; exact hk _ hb
/-- A slice cut behind k. -/
def cutAd (ad : Option Addr) (cap k : Nat) : Option Addr := if cap = k then ad else ad.map (·.add k)
theorem Lies.cut {ad : Option Addr} {cap g : Nat} (h : Lies ad cap g) (k : Nat) : Lies (cutAd ad cap k) (cap - k) g := by
  unfold cutAd
  split
  · rename_i e
    exact ⟨fun hh => by have := h.1 hh; omega, h.2⟩
  · rcases h.2 with h' | ⟨b, off, e, hb⟩
    · rw [h']; exact ⟨fun _ => by have := h.1 h'; omega, .inl rfl⟩
    · rw [e, Option.map_some, Addr.add_lit]; exact ⟨fun hh => (by cases hh), .inr ⟨b, off + k, rfl, hb⟩⟩
theorem rd_cut {w : World} {ad : Option Addr} {l : List UInt8} {cap g k : Nat} (hr : RdB w ad l) (hl : Lies ad cap g) (hc : l.length ≤ cap) : RdB w (cutAd ad cap k) (l.drop k) := by
  unfold cutAd
  split
  · exact .inl (List.drop_eq_nil_of_le (by omega))
  · rcases hl.2 with h' | ⟨b, off, e, _⟩
    · rw [h'] at hr
      rcases hr with h2 | ⟨b, off, e, _⟩
      · subst h2; exact .inl (by simp)
      · cases e
    · subst e
      rw [Option.map_some, Addr.add_lit]
      exact hr.drop k

/-- The reader in memory. -/
structure RR (w : World) (g : Nat) (s : Int × List UInt8) : Prop where
  mem : ∃ ad cap, Blk w g 66 #[.int .i64 s.1, .slice ad s.2.length cap] ∧ RdB w ad s.2 ∧ Lies ad cap g ∧ s.2.length ≤ cap ∧ cap ≤ 9223372036854775807
  bad : s.1 ≠ 0 → s.2 = []
  small : s.2.length ≤ 1000000
/-- What a call of the reader touches: its block. -/
structure RStep (w w' : World) (g : Nat) : Prop where
  below : Below g w w'
  block : ∀ k, g < k → k < w.heap.size → w'.heap[k]? = w.heap[k]?
theorem RStep.refl (w : World) (g : Nat) : RStep w w g := ⟨Below.refl _ _, fun _ _ _ => rfl⟩
theorem RStep.trans {a b c : World} {g : Nat} (h : RStep a b g) (k : RStep b c g) : RStep a c g := by
  have hs := h.below.size
  exact ⟨h.below.trans k.below, fun i hi h1 => by rw [k.block i hi (by omega), h.block i hi h1]⟩
theorem RStep.of_below {a b : World} {g : Nat} (h : Below a.heap.size a b) (hg : g ≤ a.heap.size) : RStep a b g := ⟨h.mono hg, fun i _ h1 => h.block i h1⟩
theorem RR.lt {w : World} {g : Nat} {s : Int × List UInt8} (h : RR w g s) : g < w.heap.size := by
  obtain ⟨ad, cap, hb, _⟩ := h.mem
  exact hb.lt
theorem RR.kept {w w' : World} {g : Nat} {s : Int × List UInt8} (h : RR w g s) (hB : Below w.heap.size w w') : RR w' g s := by
  obtain ⟨ad, cap, hb, hr, hl, h1, h2⟩ := h.mem
  exact ⟨⟨ad, cap, hb.below hB, hr.below hB, hl, h1, h2⟩, h.bad, h.small⟩
/-- The reader stays where what lies behind it is touched. -/
theorem RR.behind {w w' : World} {g : Nat} {s : Int × List UInt8} (h : RR w g s) (hk : ∀ b, b ≤ g → w'.heap[b]? = w.heap[b]?) : RR w' g s := by
  obtain ⟨ad, cap, hb, hr, hl, h1, h2⟩ := h.mem
  exact ⟨⟨ad, cap, (hk g (Nat.le_refl _)).trans hb, hl.kept hr fun b hb => hk b (by omega), hl, h1, h2⟩, h.bad, h.small⟩
/-- What a call of the reader leaves that hands nothing back. -/
def RPost (w : World) (g : Nat) (s : Int × List UInt8) (v : Value) (e : Ending) (w' : World) : Prop :=
  e = .returned v ∧ RR w' g s ∧ RStep w w' g
theorem RPost.ret {w : World} {g : Nat} {s : Int × List UInt8} {v : Value} {e : Ending} {w' : World} (h : RPost w g s v e w') : e = .returned v ∧ Hid (RR w' g s) ∧ Hid (RStep w w' g) := ⟨h.1, Lib.hid h.2.1, Lib.hid h.2.2⟩
theorem read_more (ad : Option Addr) (len cap : Nat) (l : List UInt8) (w : World) (hlen : l.length = len) (hm : len ≤ 1000000) (hr : RdB w ad l) (hn : ad = none → cap = 0) :
    Calls Try.prog 18 #[.slice ad len cap] w fun e w' => ∃ g, e = .returned (.pointer (some ⟨g, 0, none⟩)) ∧ RR w' g (0, l) ∧ Below w.heap.size w w' ∧ w.heap.size ≤ g ∧ w'.heap.size = g + 1 ∧
      ∀ w2, (∀ k, w.heap.size ≤ k → k < w'.heap.size → w2.heap[k]? = w'.heap[k]?) → RR w2 g (0, l) := by
  have CF := Lib.hid (fresh_any ad len cap l w hlen (by omega) hr hn)
  have hl : l.length ≤ 1000000 := by omega
  clear hlen hr hn
  go_enter Try.func18, Try.ntmps18
  go_wp2_with fail
  refine (CF.out).mono ?_; intro e w1 hh; obtain ⟨v, rfl, ho, hB⟩ := hh
  obtain ⟨rd2, rcap2, rfl, hshape⟩ := Own.shape ho
  have HP : Hid (RR (w1.alloc (.cells #[.int .i64 0, .slice rd2 l.length rcap2] 66)) w1.heap.size (0, l) ∧ Below w.heap.size w (w1.alloc (.cells #[.int .i64 0, .slice rd2 l.length rcap2] 66)) ∧ w.heap.size ≤ w1.heap.size ∧
      ∀ w2, (∀ k, w.heap.size ≤ k → k < (w1.alloc (.cells #[.int .i64 0, .slice rd2 l.length rcap2] 66)).heap.size → w2.heap[k]? = (w1.alloc (.cells #[.int .i64 0, .slice rd2 l.length rcap2] 66)).heap[k]?) → RR w2 w1.heap.size (0, l)) := Lib.hid (by
    have hp := ho.pos
    unfold maxLen at hp
    have hm2 : Below w1.heap.size w1 (w1.alloc (.cells #[.int .i64 0, .slice rd2 l.length rcap2] 66)) := (Below.refl _ _).alloc (Nat.le_refl _) _
    have hRR : RR (w1.alloc (.cells #[.int .i64 0, .slice rd2 l.length rcap2] 66)) w1.heap.size (0, l) := ⟨⟨rd2, rcap2, Blk.new _ _ _, ho.rd.1.below hm2, own_lies ho, hp.1, by omega⟩, fun h => absurd rfl h, hl⟩
    refine ⟨hRR, hB.alloc hB.size _, hB.size, fun w2 hk => ?_⟩
    refine ⟨⟨rd2, rcap2, (hk _ hB.size (by simp)).trans (Blk.new _ _ _), rd_kept (ho.rd.1.below hm2) (fun hne b o e hb => ?_), own_lies ho, hp.1, by omega⟩, fun h => absurd rfl h, hl⟩
    refine hk b ?_ hb
    have := (own_at (k := b) ho (by rw [e]; rfl)).1
    exact this)
  clear ho hB hshape
  go_wp2_with fail
  go_ret
  exact ⟨_, rfl, HP.out.1, HP.out.2.1, HP.out.2.2.1, by simp, HP.out.2.2.2⟩
theorem read_any (ad : Option Addr) (len cap : Nat) (l : List UInt8) (w : World) (hlen : l.length = len) (hm : len ≤ 1000000) (hr : RdB w ad l) (hn : ad = none → cap = 0) :
    Calls Try.prog 18 #[.slice ad len cap] w fun e w' => ∃ g, e = .returned (.pointer (some ⟨g, 0, none⟩)) ∧ RR w' g (0, l) ∧ Below w.heap.size w w' ∧ w.heap.size ≤ g ∧ w'.heap.size = g + 1 :=
  (read_more ad len cap l w hlen hm hr hn).mono fun e w' hh => by
    obtain ⟨g, h1, h2, h3, h4, h5, _⟩ := hh
    exact ⟨g, h1, h2, h3, h4, h5⟩
theorem fail_any (g : Nat) (s : Int × List UInt8) (e : Int) (w : World) (h : RR w g s) :
    Calls Try.prog 47 #[.pointer (some ⟨g, 0, none⟩), .int .i64 e] w (RPost w g (if s.1 = 0 then e else s.1, []) (.tuple #[])) := by
  obtain ⟨e0, l⟩ := s
  obtain ⟨ad, cap, hb, hr, hl, hc, hm⟩ := h.mem
  have HN : Hid (Blk w g 66 #[.int .i64 e0, .slice ad l.length cap]) := Lib.hid hb
  have key : ∀ x W, Blk W g 66 #[.int .i64 x, .slice ad l.length cap] → (∀ k, k ≠ g → W.heap[k]? = w.heap[k]?) → Below g w W → W.heap.size = w.heap.size → (W.cell? ⟨g, 1, none⟩ = some (.slice ad l.length cap) ∧ W.frozen? ⟨g, 1, none⟩ = false) ∧ Hid (RPost w g (x, []) (.tuple #[]) (.returned (.tuple #[])) (W.setCell ⟨g, 1, none⟩ (.slice none 0 0))) := by
    intro x W hB hk hbl hsz
    refine ⟨⟨(hB.cell 1).trans rfl, hB.free 1⟩, Lib.hid ⟨rfl, ⟨⟨none, 0, hB.put 1 _, .inl rfl, Lies.nil g, by simp, by omega⟩, fun _ => rfl, by simp⟩, ⟨hbl.setCell (p := ⟨g, 1, none⟩) (Nat.le_refl _) _, fun k h1 h2 => ?_⟩⟩⟩
    rw [Below.heap_setCell _ _ _ _ (show k ≠ g by omega), hk k (by omega)]
  by_cases he : e0 = 0
  · subst he
    have CT := Lib.hid (tell_yes g _ _ e w hb rfl)
    obtain ⟨⟨c1, f1⟩, HP⟩ := key e (w.setCell ⟨g, 0, none⟩ (.int .i64 e)) (hb.put 0 _) (fun k hk => Below.heap_setCell _ _ _ _ hk) ((Below.refl _ _).setCell (p := ⟨g, 0, none⟩) (Nat.le_refl _) _) (by simp [World.setCell])
    have h0 : (if ((0 : Int), l).1 = 0 then e else ((0 : Int), l).1) = e := rfl
    rw [h0]
    clear h hb hr hl hc hm key h0
    go_enter Try.func47, Try.ntmps47
    go_wp2_with fail
    refine (CT.out).mono ?_; rintro en w' ⟨rfl, rfl⟩
    go_wp2_with fail
    go_returns
    exact HP.out
  · have CT := Lib.hid (tell_no g _ _ e e0 w hb rfl he)
    obtain ⟨⟨c1, f1⟩, HP⟩ := key e0 w hb (fun k hk => rfl) (Below.refl _ _) rfl
    have h0 : (if (e0, l).1 = 0 then e else (e0, l).1) = e0 := if_neg he
    rw [h0]
    clear h hb hr hl hc hm key h0
    go_enter Try.func47, Try.ntmps47
    go_wp2_with fail
    refine (CT.out).mono ?_; rintro en w' ⟨rfl, rfl⟩
    go_wp2_with fail
    go_returns
    exact HP.out
theorem left_any (g : Nat) (s : Int × List UInt8) (w : World) (h : RR w g s) :
    Calls Try.prog 22 #[.pointer (some ⟨g, 0, none⟩)] w fun e w' => e = .returned (.int .i64 (s.2.length : Int)) ∧ w = w' := by
  obtain ⟨ad, cap, hb, hr, hl, hc, hm⟩ := h.mem
  have c1 := hb.cell 1
  simp at c1
  clear h hb hr hl hc hm
  go_enter Try.func22, Try.ntmps22
  go_wp2_with fail
  go_ret
  exact ⟨rfl, rfl⟩
theorem left_nil (w : World) : Calls Try.prog 22 #[.pointer none] w fun e w' => e = .returned (.int .i64 0) ∧ w = w' := by
  go_enter Try.func22, Try.ntmps22
  go_wp2_with fail
  go_ret
  exact ⟨rfl, rfl⟩
theorem err_any (g : Nat) (s : Int × List UInt8) (w : World) (h : RR w g s) :
    Calls Try.prog 34 #[.pointer (some ⟨g, 0, none⟩)] w fun e w' => e = .returned (.int .i64 s.1) ∧ w = w' := by
  obtain ⟨ad, cap, hb, hr, hl, hc, hm⟩ := h.mem
  have c0 := hb.cell 0
  simp at c0
  clear h hb hr hl hc hm
  go_enter Try.func34, Try.ntmps34
  go_wp2_with fail
  go_ret
  exact ⟨rfl, rfl⟩
theorem err_nil (w : World) : Calls Try.prog 34 #[.pointer none] w fun e w' => e = .returned (.int .i64 1) ∧ w = w' := by
  go_enter Try.func34, Try.ntmps34
  go_wp2_with fail
  go_ret
  exact ⟨rfl, rfl⟩
theorem end_any (g : Nat) (s : Int × List UInt8) (w : World) (h : RR w g s) :
    Calls Try.prog 20 #[.pointer (some ⟨g, 0, none⟩)] w fun e w' => e = .returned (.int .i64 (if s.2 = [] then s.1 else 5)) ∧ w = w' := by
  obtain ⟨e0, l⟩ := s
  have CL := Lib.hid (left_any g _ w h)
  have CE := Lib.hid (err_any g _ w h)
  clear h
  cases l with
  | nil =>
    go_enter Try.func20, Try.ntmps20
    go_wp2_with fail
    refine (CL.out).mono ?_; rintro en w' ⟨rfl, rfl⟩
    go_wp2_with fail
    refine (CE.out).mono ?_; rintro en w' ⟨rfl, rfl⟩
    go_wp2_with fail
    go_ret
    exact ⟨rfl, rfl⟩
  | cons b l =>
    have hp : 0 < (b :: l).length := by simp
    have hn : (b :: l) ≠ [] := by simp
    generalize b :: l = m at *
    have hp' : (0 : Int) < (m.length : Int) := by omega
    go_enter Try.func20, Try.ntmps20
    go_wp2_with fail
    refine (CL.out).mono ?_; rintro en w' ⟨rfl, rfl⟩
    go_wp2_with fail
    go_ret
    exact ⟨rfl, rfl⟩
theorem end_nil (w : World) : Calls Try.prog 20 #[.pointer none] w fun e w' => e = .returned (.int .i64 1) ∧ w = w' := by
  have CL := Lib.hid (left_nil w)
  have CE := Lib.hid (err_nil w)
  go_enter Try.func20, Try.ntmps20
  go_wp2_with fail
  refine (CL.out).mono ?_; rintro en w' ⟨rfl, rfl⟩
  go_wp2_with fail
  refine (CE.out).mono ?_; rintro en w' ⟨rfl, rfl⟩
  go_wp2_with fail
  go_ret
  exact ⟨rfl, rfl⟩
/-- What take hands back: so many bytes, or none. -/
def TakePost (w : World) (g n : Nat) (s : Int × List UInt8) (e : Ending) (w' : World) : Prop :=
  ∃ ad cap t, Hid (t = if s.2.length < n then [] else s.2.take n) ∧ e = .returned (.slice ad t.length cap) ∧ RdB w' ad t ∧ Lies ad cap g ∧ t.length ≤ cap ∧ cap ≤ 9223372036854775807 ∧ RR w' g (upd s (if s.2.length < n then ([], 3) else (s.2.drop n, 0))) ∧ RStep w w' g
end Go.Proofs.Ytepcbklokcfbfaa.Buf
