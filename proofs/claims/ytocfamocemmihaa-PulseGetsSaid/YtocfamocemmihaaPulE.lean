/- Put (layer 11), at any writer. -/
import Derived.Test.YtocfamocemmihaaPulM
import Derived.Test.YtocfamocemmihaaHedD
namespace Go.Proofs.Ytocfamocemmihaa.Pul
open Go.ChangeShapes Go.WideShapes Go.ChangeAt Go.RowKit Go.Deep
open Go.Proofs.Ytocfamocemmihaa.Byt Go.Proofs.Ytocfamocemmihaa.Key Go.Proofs.Ytocfamocemmihaa.Buf Go.Proofs.Ytocfamocemmihaa.Hed Go.Proofs.Ytocfamocemmihaa.Dat Go.Proofs.Ytocfamocemmihaa.BufM
set_option linter.unusedVariables false
set_option linter.unusedSimpArgs false
/-- A writer beside two boxes: a packet that came in, what its kind has. -/
structure P2 (w : World) (B g m bp : Nat) (r0 : Option Nat) (cs : Array Value) (bq : Nat) (ds : Array Value) (s : Int × List UInt8) (W : World) (row : Option Nat) : Prop where
  ps : PS w B g m bp r0 27 cs s W row
  box : Blk W bq 55 ds
  ne : bq ≠ g
  ner : some bq ≠ row
theorem P2.next {w : World} {B g m bp : Nat} {r0 : Option Nat} {cs : Array Value} {bq : Nat} {ds : Array Value} {s s' : Int × List UInt8} {W : World} {row : Option Nat} (h : P2 w B g m bp r0 cs bq ds s W row) {e : Ending} {w' : World} (hp : WPost W B g m row s' e w') :
    e = .returned (.tuple #[]) ∧ ∃ row', Hid (P2 w B g m bp r0 cs bq ds s' w' row') := by
  obtain ⟨rfl, row', h1, h2⟩ := hp
  have hl := h.ps.box.lt
  have hq := h.box.lt
  refine ⟨rfl, row', Lib.hid ⟨⟨h1, ?_, h.ps.ne, ?_, h.ps.step.trans h2⟩, ?_, h.ne, ?_⟩⟩
  · exact (h2.block bp hl h.ps.ne h.ps.ner).trans h.ps.box
  · rcases h2.new with e | e
    · rw [e]; exact h.ps.ner
    · intro e2; have := e bp e2.symm; omega
  · exact (h2.block bq hq h.ne h.ner).trans h.box
  · rcases h2.new with e | e
    · rw [e]; exact h.ner
    · intro e2; have := e bq e2.symm; omega
theorem P2.num {w : World} {B g m bp : Nat} {r0 : Option Nat} {cs : Array Value} {bq : Nat} {ds : Array Value} {s : Int × List UInt8} {W : World} {row : Option Nat} (h : P2 w B g m bp r0 cs bq ds s W row) (hm : s.2.length ≤ 900000) (x : Int) :
    Calls Try.prog 34 #[.pointer (some ⟨g, 0, none⟩), .int .u64 (IntKind.u64.wrap x)] W fun e w' => e = .returned (.tuple #[]) ∧ ∃ row', Hid (P2 w B g m bp r0 cs bq ds (wNum m s (un x)) w' row') := by
  rw [← un_val]
  exact (num_any g B m s row (un x) _ h.ps.wr (un_lt x) hm).mono fun e w' hh => h.next hh
theorem P2.fix {w : World} {B g m bp : Nat} {r0 : Option Nat} {cs : Array Value} {bq : Nat} {ds : Array Value} {s : Int × List UInt8} {W : World} {row : Option Nat} (h : P2 w B g m bp r0 cs bq ds s W row) (hm : s.2.length ≤ 900000) (x : Int) (n : Int) :
    Calls Try.prog 33 #[.pointer (some ⟨g, 0, none⟩), .int .u64 (IntKind.u64.wrap x), .int .i64 n] W fun e w' => e = .returned (.tuple #[]) ∧ ∃ row', Hid (P2 w B g m bp r0 cs bq ds (wFix m s (un x) n) w' row') := by
  rw [← un_val]
  exact (fixed_any g B m s row (un x) n _ h.ps.wr (un_lt x) hm).mono fun e w' hh => h.next hh
theorem P2.start {w w1 W2 : World} {B g m : Nat} {s : Int × List UInt8} {row : Option Nat} (h : WR w B g m s row) (cs ds : Array Value) (hB : Below (w.alloc (.cells cs 27)).heap.size (w.alloc (.cells cs 27)) w1) (hW : W2 = w1.alloc (.cells ds 55)) : P2 w B g m w.heap.size row cs w1.heap.size ds s W2 row := by
  obtain ⟨x1, x2⟩ := one_box w1 W2 _ _ hW
  have h0 := PS.start h 27 cs
  have hs := hB.size
  rw [World.size_alloc] at hs
  obtain ⟨v, hb, -⟩ := h.mem
  have hg := hb.lt
  exact ⟨h0.kept (hB.trans (x1.mono hB.size)), x2, by omega, fun e => by have := row_lt h e.symm; omega⟩
theorem wFix_len {m : Nat} {s : Int × List UInt8} (x : Nat) : (wFix m s x 8).2.length ≤ s.2.length + 8 := by
  unfold wFix
  rw [if_pos (by decide)]
  have := wByte_len (m := m) (s := s) (fixB x (8 : Int).toNat)
  rw [fixB_len] at this
  exact this
/-- What Put leaves with a writer. -/
def pulS (m : Nat) (s : Int × List UInt8) (p : Pk) : Int × List UInt8 := if p.kind = 1 then wFix m s (un p.stamp) 8 else if p.kind = 2 then wFix m (wFix m s (un p.stamp) 8) (un p.value) 8 else wNum m s (un p.no)
set_option maxRecDepth 100000 in
set_option maxHeartbeats 2000000 in
theorem pput_1 (p : Pk) (g B m : Nat) (s : Int × List UInt8) (row : Option Nat) (w : World) (hk : p.kind = 1) (h : WR w B g m s row) (hm : s.2.length ≤ 800000) :
    Calls Try.prog 19 #[.pointer (some ⟨g, 0, none⟩), pval p] w (WPost w B g m row (pulS m s p)) := by
  have CP := Lib.hid (fun W => parts_any 1 W)
  have HP := Lib.hid (fun w1 W2 (hB : Below (w.alloc (.cells p.cells 27)).heap.size (w.alloc (.cells p.cells 27)) w1) (hW : W2 = w1.alloc (.cells #[.bool true, .bool false, .bool false] 55)) => P2.start h p.cells #[.bool true, .bool false, .bool false] hB hW)
  have HC : Hid (∀ s' bq W row', P2 w B g m w.heap.size row p.cells bq #[.bool true, .bool false, .bool false] s' W row' → _ ∧ (_ ∧ _ ∧ _)) := Lib.hid (fun s' bq W row' h => ⟨blk_cells h.ps.box, h.box.cell 0, h.box.cell 1, h.box.cell 2⟩)
  have HE : Hid (∀ s' bq W row', P2 w B g m w.heap.size row p.cells bq #[.bool true, .bool false, .bool false] s' W row' → WPost w B g m row s' (.returned (.tuple #[])) W) := Lib.hid (fun s' bq W row' h => h.ps.post)
  have hS : pulS m s p = wFix m s (un p.stamp) 8 := by
    unfold pulS
    rw [if_pos hk]
  rw [hS]
  clear hS
  have C0 : Hid (∀ bq W row', P2 w B g m w.heap.size row p.cells bq #[.bool true, .bool false, .bool false] s W row' → Calls Try.prog 33 #[.pointer (some ⟨g, 0, none⟩), .int .u64 (IntKind.u64.wrap p.stamp), .int .i64 8] W fun e w' => e = .returned (.tuple #[]) ∧ ∃ row2, Hid (P2 w B g m w.heap.size row p.cells bq #[.bool true, .bool false, .bool false] (wFix m s (un p.stamp) 8) w' row2)) := Lib.hid (fun bq W row' h => h.fix (by omega) _ _)
  generalize wFix m s (un p.stamp) 8 = sF at *
  unfold kcs pcs at CP
  simp only [Int.reduceBEq, Bool.or_false, Bool.false_or, Bool.or_self, Bool.or_true, Bool.true_or] at CP
  have HE2 := Lib.hid (fun bq W row' h => HE.out sF bq W row' h)
  clear HE
  generalize WPost w B g m row sF = Fin at *
  obtain ⟨kind, ⟨t, f, q⟩, hops, no, to, index, total, stamp, value, ad, cap, body⟩ := p
  simp only at hk
  subst hk
  obtain ⟨wb, hwb⟩ : ∃ wb, Hid (wb = w.alloc (.cells (Pk.cells ⟨1, (t, f, q), hops, no, to, index, total, stamp, value, ad, cap, body⟩) 27)) := ⟨_, Lib.hid rfl⟩
  have c := pk_cells w wb _ hwb.out wb (Below.refl _ _)
  rw [← hwb.out] at HP
  unfold pval
  unfold Pk.cells at hwb
  unfold Pk.cells
  simp only [List.getElem?_toArray, List.getElem?_cons_succ, List.getElem?_cons_zero] at HC hwb c C0 ⊢
  obtain ⟨n, hn⟩ : ∃ n, body.length = n := ⟨_, rfl⟩
  simp only [hn] at hwb c HC ⊢
  clear hm h 
  go_enter Try.func19, Try.ntmps19
  go_upto_region 1 with fail
  rw [← hwb.out]
  clear hwb
  obtain ⟨c0, c1, c2, c3, c4, c5, c6, c7, c8, c9, c10, c11⟩ := c
  go_wp2_with fail
  refine (CP.out _).mono ?_; rintro e w1 ⟨rfl, hB1⟩
  have HP1 := Lib.hid (fun W2 hW => HP.out w1 W2 hB1 hW)
  clear hB1 c0 c1 c2 c3 c4 c5 c6 c7 c8 c9 c10 c11 CP HP
  go_upto_region 2 with fail
  obtain ⟨W2, hW2⟩ : ∃ W2, W2 = w1.alloc (.cells #[.bool true, .bool false, .bool false] 55) := ⟨_, rfl⟩
  have H2 := Lib.hid (HP1.out W2 hW2)
  rw [← hW2]
  clear hW2 HP1
  obtain ⟨⟨c0, c1, c2, c3, c4, c5, c6, c7, c8, c9, c10, c11⟩, p0, p1, p2⟩ := HC.out _ _ _ _ H2.out
  go_wp2_with fail
  refine (C0.out _ _ _ H2.out).mono ?_; rintro e x0 ⟨rfl, row0, H3⟩
  clear c0 c1 c2 c3 c4 c5 c6 c7 c8 c9 c10 c11 p0 p1 p2 C0 H2
  obtain ⟨⟨c0, c1, c2, c3, c4, c5, c6, c7, c8, c9, c10, c11⟩, p0, p1, p2⟩ := HC.out _ _ _ _ H3.out
  have hF := Lib.hid (HE2.out _ _ _ H3.out)
  clear HE2 HC H3
  go_wp2_with fail
  go_returns
  exact hF.out
set_option maxRecDepth 100000 in
set_option maxHeartbeats 2000000 in
theorem pput_2 (p : Pk) (g B m : Nat) (s : Int × List UInt8) (row : Option Nat) (w : World) (hk : p.kind = 2) (h : WR w B g m s row) (hm : s.2.length ≤ 800000) :
    Calls Try.prog 19 #[.pointer (some ⟨g, 0, none⟩), pval p] w (WPost w B g m row (pulS m s p)) := by
  have CP := Lib.hid (fun W => parts_any 2 W)
  have HP := Lib.hid (fun w1 W2 (hB : Below (w.alloc (.cells p.cells 27)).heap.size (w.alloc (.cells p.cells 27)) w1) (hW : W2 = w1.alloc (.cells #[.bool true, .bool true, .bool false] 55)) => P2.start h p.cells #[.bool true, .bool true, .bool false] hB hW)
  have HC : Hid (∀ s' bq W row', P2 w B g m w.heap.size row p.cells bq #[.bool true, .bool true, .bool false] s' W row' → _ ∧ (_ ∧ _ ∧ _)) := Lib.hid (fun s' bq W row' h => ⟨blk_cells h.ps.box, h.box.cell 0, h.box.cell 1, h.box.cell 2⟩)
  have HE : Hid (∀ s' bq W row', P2 w B g m w.heap.size row p.cells bq #[.bool true, .bool true, .bool false] s' W row' → WPost w B g m row s' (.returned (.tuple #[])) W) := Lib.hid (fun s' bq W row' h => h.ps.post)
  have hS : pulS m s p = wFix m (wFix m s (un p.stamp) 8) (un p.value) 8 := by
    unfold pulS
    rw [if_neg (by omega), if_pos hk]
  rw [hS]
  clear hS
  have C0 : Hid (∀ bq W row', P2 w B g m w.heap.size row p.cells bq #[.bool true, .bool true, .bool false] s W row' → Calls Try.prog 33 #[.pointer (some ⟨g, 0, none⟩), .int .u64 (IntKind.u64.wrap p.stamp), .int .i64 8] W fun e w' => e = .returned (.tuple #[]) ∧ ∃ row2, Hid (P2 w B g m w.heap.size row p.cells bq #[.bool true, .bool true, .bool false] (wFix m s (un p.stamp) 8) w' row2)) := Lib.hid (fun bq W row' h => h.fix (by omega) _ _)
  have hm2 : (wFix m s (un p.stamp) 8).2.length ≤ 800008 := by have := wFix_len (m := m) (s := s) (un p.stamp); omega
  generalize wFix m s (un p.stamp) 8 = s1 at *
  have C1 : Hid (∀ bq W row', P2 w B g m w.heap.size row p.cells bq #[.bool true, .bool true, .bool false] s1 W row' → Calls Try.prog 33 #[.pointer (some ⟨g, 0, none⟩), .int .u64 (IntKind.u64.wrap p.value), .int .i64 8] W fun e w' => e = .returned (.tuple #[]) ∧ ∃ row2, Hid (P2 w B g m w.heap.size row p.cells bq #[.bool true, .bool true, .bool false] (wFix m s1 (un p.value) 8) w' row2)) := Lib.hid (fun bq W row' h => h.fix (by omega) _ _)
  generalize wFix m s1 (un p.value) 8 = sF at *
  unfold kcs pcs at CP
  simp only [Int.reduceBEq, Bool.or_false, Bool.false_or, Bool.or_self, Bool.or_true, Bool.true_or] at CP
  have HE2 := Lib.hid (fun bq W row' h => HE.out sF bq W row' h)
  clear HE
  generalize WPost w B g m row sF = Fin at *
  obtain ⟨kind, ⟨t, f, q⟩, hops, no, to, index, total, stamp, value, ad, cap, body⟩ := p
  simp only at hk
  subst hk
  obtain ⟨wb, hwb⟩ : ∃ wb, Hid (wb = w.alloc (.cells (Pk.cells ⟨2, (t, f, q), hops, no, to, index, total, stamp, value, ad, cap, body⟩) 27)) := ⟨_, Lib.hid rfl⟩
  have c := pk_cells w wb _ hwb.out wb (Below.refl _ _)
  rw [← hwb.out] at HP
  unfold pval
  unfold Pk.cells at hwb
  unfold Pk.cells
  simp only [List.getElem?_toArray, List.getElem?_cons_succ, List.getElem?_cons_zero] at HC hwb c C0 C1 ⊢
  obtain ⟨n, hn⟩ : ∃ n, body.length = n := ⟨_, rfl⟩
  simp only [hn] at hwb c HC ⊢
  clear hm h hm2
  go_enter Try.func19, Try.ntmps19
  go_upto_region 1 with fail
  rw [← hwb.out]
  clear hwb
  obtain ⟨c0, c1, c2, c3, c4, c5, c6, c7, c8, c9, c10, c11⟩ := c
  go_wp2_with fail
  refine (CP.out _).mono ?_; rintro e w1 ⟨rfl, hB1⟩
  have HP1 := Lib.hid (fun W2 hW => HP.out w1 W2 hB1 hW)
  clear hB1 c0 c1 c2 c3 c4 c5 c6 c7 c8 c9 c10 c11 CP HP
  go_upto_region 2 with fail
  obtain ⟨W2, hW2⟩ : ∃ W2, W2 = w1.alloc (.cells #[.bool true, .bool true, .bool false] 55) := ⟨_, rfl⟩
  have H2 := Lib.hid (HP1.out W2 hW2)
  rw [← hW2]
  clear hW2 HP1
  obtain ⟨⟨c0, c1, c2, c3, c4, c5, c6, c7, c8, c9, c10, c11⟩, p0, p1, p2⟩ := HC.out _ _ _ _ H2.out
  go_wp2_with fail
  refine (C0.out _ _ _ H2.out).mono ?_; rintro e x0 ⟨rfl, row0, H3⟩
  clear c0 c1 c2 c3 c4 c5 c6 c7 c8 c9 c10 c11 p0 p1 p2 C0 H2
  obtain ⟨⟨c0, c1, c2, c3, c4, c5, c6, c7, c8, c9, c10, c11⟩, p0, p1, p2⟩ := HC.out _ _ _ _ H3.out
  go_wp2_with fail
  refine (C1.out _ _ _ H3.out).mono ?_; rintro e x1 ⟨rfl, row1, H4⟩
  clear c0 c1 c2 c3 c4 c5 c6 c7 c8 c9 c10 c11 p0 p1 p2 C1 H3
  obtain ⟨⟨c0, c1, c2, c3, c4, c5, c6, c7, c8, c9, c10, c11⟩, p0, p1, p2⟩ := HC.out _ _ _ _ H4.out
  have hF := Lib.hid (HE2.out _ _ _ H4.out)
  clear HE2 HC H4
  go_wp2_with fail
  go_returns
  exact hF.out
set_option maxRecDepth 100000 in
set_option maxHeartbeats 2000000 in
theorem pput_3 (p : Pk) (g B m : Nat) (s : Int × List UInt8) (row : Option Nat) (w : World) (hk : p.kind = 3) (h : WR w B g m s row) (hm : s.2.length ≤ 800000) :
    Calls Try.prog 19 #[.pointer (some ⟨g, 0, none⟩), pval p] w (WPost w B g m row (pulS m s p)) := by
  have CP := Lib.hid (fun W => parts_any 3 W)
  have HP := Lib.hid (fun w1 W2 (hB : Below (w.alloc (.cells p.cells 27)).heap.size (w.alloc (.cells p.cells 27)) w1) (hW : W2 = w1.alloc (.cells #[.bool false, .bool false, .bool true] 55)) => P2.start h p.cells #[.bool false, .bool false, .bool true] hB hW)
  have HC : Hid (∀ s' bq W row', P2 w B g m w.heap.size row p.cells bq #[.bool false, .bool false, .bool true] s' W row' → _ ∧ (_ ∧ _ ∧ _)) := Lib.hid (fun s' bq W row' h => ⟨blk_cells h.ps.box, h.box.cell 0, h.box.cell 1, h.box.cell 2⟩)
  have HE : Hid (∀ s' bq W row', P2 w B g m w.heap.size row p.cells bq #[.bool false, .bool false, .bool true] s' W row' → WPost w B g m row s' (.returned (.tuple #[])) W) := Lib.hid (fun s' bq W row' h => h.ps.post)
  have hS : pulS m s p = wNum m s (un p.no) := by
    unfold pulS
    rw [if_neg (by omega), if_neg (by omega)]
  rw [hS]
  clear hS
  have C0 : Hid (∀ bq W row', P2 w B g m w.heap.size row p.cells bq #[.bool false, .bool false, .bool true] s W row' → Calls Try.prog 34 #[.pointer (some ⟨g, 0, none⟩), .int .u64 (IntKind.u64.wrap p.no)] W fun e w' => e = .returned (.tuple #[]) ∧ ∃ row2, Hid (P2 w B g m w.heap.size row p.cells bq #[.bool false, .bool false, .bool true] (wNum m s (un p.no)) w' row2)) := Lib.hid (fun bq W row' h => h.num (by omega) _)
  generalize wNum m s (un p.no) = sF at *
  unfold kcs pcs at CP
  simp only [Int.reduceBEq, Bool.or_false, Bool.false_or, Bool.or_self, Bool.or_true, Bool.true_or] at CP
  have HE2 := Lib.hid (fun bq W row' h => HE.out sF bq W row' h)
  clear HE
  generalize WPost w B g m row sF = Fin at *
  obtain ⟨kind, ⟨t, f, q⟩, hops, no, to, index, total, stamp, value, ad, cap, body⟩ := p
  simp only at hk
  subst hk
  obtain ⟨wb, hwb⟩ : ∃ wb, Hid (wb = w.alloc (.cells (Pk.cells ⟨3, (t, f, q), hops, no, to, index, total, stamp, value, ad, cap, body⟩) 27)) := ⟨_, Lib.hid rfl⟩
  have c := pk_cells w wb _ hwb.out wb (Below.refl _ _)
  rw [← hwb.out] at HP
  unfold pval
  unfold Pk.cells at hwb
  unfold Pk.cells
  simp only [List.getElem?_toArray, List.getElem?_cons_succ, List.getElem?_cons_zero] at HC hwb c C0 ⊢
  obtain ⟨n, hn⟩ : ∃ n, body.length = n := ⟨_, rfl⟩
  simp only [hn] at hwb c HC ⊢
  clear hm h 
  go_enter Try.func19, Try.ntmps19
  go_upto_region 1 with fail
  rw [← hwb.out]
  clear hwb
  obtain ⟨c0, c1, c2, c3, c4, c5, c6, c7, c8, c9, c10, c11⟩ := c
  go_wp2_with fail
  refine (CP.out _).mono ?_; rintro e w1 ⟨rfl, hB1⟩
  have HP1 := Lib.hid (fun W2 hW => HP.out w1 W2 hB1 hW)
  clear hB1 c0 c1 c2 c3 c4 c5 c6 c7 c8 c9 c10 c11 CP HP
  go_upto_region 2 with fail
  obtain ⟨W2, hW2⟩ : ∃ W2, W2 = w1.alloc (.cells #[.bool false, .bool false, .bool true] 55) := ⟨_, rfl⟩
  have H2 := Lib.hid (HP1.out W2 hW2)
  rw [← hW2]
  clear hW2 HP1
  obtain ⟨⟨c0, c1, c2, c3, c4, c5, c6, c7, c8, c9, c10, c11⟩, p0, p1, p2⟩ := HC.out _ _ _ _ H2.out
  go_wp2_with fail
  refine (C0.out _ _ _ H2.out).mono ?_; rintro e x0 ⟨rfl, row0, H3⟩
  clear c0 c1 c2 c3 c4 c5 c6 c7 c8 c9 c10 c11 p0 p1 p2 C0 H2
  obtain ⟨⟨c0, c1, c2, c3, c4, c5, c6, c7, c8, c9, c10, c11⟩, p0, p1, p2⟩ := HC.out _ _ _ _ H3.out
  have hF := Lib.hid (HE2.out _ _ _ H3.out)
  clear HE2 HC H3
  go_wp2_with fail
  go_returns
  exact hF.out
theorem pput_any (p : Pk) (g B m : Nat) (s : Int × List UInt8) (row : Option Nat) (w : World) (hk : kk p.kind = true) (h : WR w B g m s row) (hm : s.2.length ≤ 800000) :
    Calls Try.prog 19 #[.pointer (some ⟨g, 0, none⟩), pval p] w (WPost w B g m row (pulS m s p)) := by
  rw [kk_iff] at hk
  rcases hk with hk | hk | hk
  · exact pput_1 p g B m s row w hk h hm
  · exact pput_2 p g B m s row w hk h hm
  · exact pput_3 p g B m s row w hk h hm
end Go.Proofs.Ytocfamocemmihaa.Pul
