/- A head is written (layer 9): Put; the chapter's example. -/
import Derived.Test.YtliblcjfccijjaaHedC
import Derived.Test.YtliblcjfccijjaaBufC
import Derived.Test.YtliblcjfccijjaaBufH
namespace Go.Proofs.Ytliblcjfccijjaa.Hed
open Go.ChangeShapes Go.WideShapes Go.ChangeAt Go.RowKit Go.Deep
open Go.Proofs.Ytliblcjfccijjaa.Byt Go.Proofs.Ytliblcjfccijjaa.Key Go.Proofs.Ytliblcjfccijjaa.Buf Go.Proofs.Ytliblcjfccijjaa.BufM
set_option linter.unusedVariables false
set_option linter.unusedSimpArgs false
/-- The byte that a number becomes. -/
def kb (x : Int) : UInt8 := UInt8.ofNat (x % 256).toNat
/-- The number without sign that a number becomes. -/
def un (x : Int) : Nat := (x % 18446744073709551616).toNat
theorem un_lt (x : Int) : un x < 18446744073709551616 := by unfold un; omega
theorem kb_val (x : Int) : ((kb x).toNat : Int) = IntKind.u8.wrap x := by
  rw [IntKind.wrap_u8]
  unfold kb
  rw [toNat_of (by omega)]
  omega
theorem kb_bv (x : Int) : bv (kb x) = .int .u8 (IntKind.u8.wrap x) := by unfold bv; rw [kb_val]
theorem un_val (x : Int) : ((un x : Nat) : Int) = IntKind.u64.wrap x := by
  rw [IntKind.wrap_u64]
  unfold un
  omega
/-- What a writer holds when a head was written. -/
def putS (m : Nat) (s : Int × List UInt8) (p : Pk) : Int × List UInt8 :=
  if flo p.kind then wFix m (wByte m (wNum m (wByte m (wByte m s [kb p.kind]) [kb p.hops]) (un p.key.1)) [kb p.key.2.1]) (un p.key.2.2) 4 else wByte m s [kb p.kind]
/-- A writer beside a box that is the call's own. -/
structure PS (w : World) (B g m bp : Nat) (r0 : Option Nat) (t : TypeId) (cs : Array Value) (s : Int × List UInt8) (W : World) (row : Option Nat) : Prop where
  wr : WR W B g m s row
  box : Blk W bp t cs
  ne : bp ≠ g
  ner : some bp ≠ row
  step : WStep w W B g r0 row
theorem row_lt {w : World} {B g m : Nat} {s : Int × List UInt8} {row : Option Nat} (h : WR w B g m s row) {k : Nat} (hk : row = some k) : k < w.heap.size := by
  obtain ⟨v, hb, ho, hr⟩ := h.mem
  exact (own_at ho (hr.trans hk)).2
theorem PS.start {w : World} {B g m : Nat} {s : Int × List UInt8} {row : Option Nat} (h : WR w B g m s row) (t : TypeId) (cs : Array Value) :
    PS w B g m w.heap.size row t cs s (w.alloc (.cells cs t)) row := by
  have hB : Below w.heap.size w (w.alloc (.cells cs t)) := (Below.refl _ _).alloc (Nat.le_refl _) _
  obtain ⟨v, hb, -⟩ := h.mem
  have hg := hb.lt
  exact ⟨h.kept hB, Blk.new _ _ _, by omega, fun e => by have := row_lt h e.symm; omega, WStep.ahead hB (WStep.refl _ _ _ _) h.le⟩
theorem PS.next {w : World} {B g m bp : Nat} {r0 : Option Nat} {t : TypeId} {cs : Array Value} {s s' : Int × List UInt8} {W V : World} {row : Option Nat} (h : PS w B g m bp r0 t cs s W row) (hB : Below W.heap.size W V) {e : Ending} {w' : World} (hp : WPost V B g m row s' e w') :
    e = .returned (.tuple #[]) ∧ ∃ row', Hid (PS w B g m bp r0 t cs s' w' row') := by
  obtain ⟨rfl, row', h1, h2⟩ := hp
  have hs := hB.size
  have hl := h.box.lt
  refine ⟨rfl, row', Lib.hid ⟨h1, ?_, h.ne, ?_, h.step.trans (h2.ahead hB h.wr.le)⟩⟩
  · exact (h2.block bp (by omega) h.ne h.ner).trans (h.box.below hB)
  · rcases h2.new with e | e
    · rw [e]; exact h.ner
    · intro e2; have := e bp e2.symm; omega
theorem PS.kept {w : World} {B g m bp : Nat} {r0 : Option Nat} {t : TypeId} {cs : Array Value} {s : Int × List UInt8} {W V : World} {row : Option Nat} (h : PS w B g m bp r0 t cs s W row) (hB : Below W.heap.size W V) : PS w B g m bp r0 t cs s V row :=
  ⟨h.wr.kept hB, h.box.below hB, h.ne, h.ner, h.step.trans ((WStep.refl _ _ _ _).ahead hB h.wr.le)⟩
/-- Byte(byte(x)). -/
theorem PS.byte {w : World} {B g m bp : Nat} {r0 : Option Nat} {t : TypeId} {cs : Array Value} {s : Int × List UInt8} {W : World} {row : Option Nat} (h : PS w B g m bp r0 t cs s W row) (hm : s.2.length ≤ 900000) (x : Int) :
    Calls Try.prog 45 #[.pointer (some ⟨g, 0, none⟩), .slice (some ⟨W.heap.size, 0, none⟩) 1 1] (W.alloc (.cells #[.int .u8 (IntKind.u8.wrap x)] 5)) fun e w' => e = .returned (.tuple #[]) ∧ ∃ row', Hid (PS w B g m bp r0 t cs (wByte m s [kb x]) w' row') := by
  have hB : Below W.heap.size W (W.alloc (.cells #[.int .u8 (IntKind.u8.wrap x)] 5)) := (Below.refl _ _).alloc (Nat.le_refl _) _
  have ho := own_one W (kb x)
  rw [kb_bv] at ho
  exact (byte_any g B m s row (some ⟨W.heap.size, 0, none⟩) 1 1 [kb x] _ (h.wr.kept hB) rfl (by omega) ho.rd.1 (fun e => by cases e)).mono fun e w' hh => h.next hB hh
theorem PS.num {w : World} {B g m bp : Nat} {r0 : Option Nat} {t : TypeId} {cs : Array Value} {s : Int × List UInt8} {W : World} {row : Option Nat} (h : PS w B g m bp r0 t cs s W row) (hm : s.2.length ≤ 900000) (x : Int) :
    Calls Try.prog 46 #[.pointer (some ⟨g, 0, none⟩), .int .u64 (IntKind.u64.wrap x)] W fun e w' => e = .returned (.tuple #[]) ∧ ∃ row', Hid (PS w B g m bp r0 t cs (wNum m s (un x)) w' row') := by
  rw [← un_val]
  exact (num_any g B m s row (un x) _ h.wr (un_lt x) hm).mono fun e w' hh => h.next (Below.refl _ _) hh
theorem PS.fix {w : World} {B g m bp : Nat} {r0 : Option Nat} {t : TypeId} {cs : Array Value} {s : Int × List UInt8} {W : World} {row : Option Nat} (h : PS w B g m bp r0 t cs s W row) (hm : s.2.length ≤ 900000) (x : Int) (n : Int) :
    Calls Try.prog 47 #[.pointer (some ⟨g, 0, none⟩), .int .u64 (IntKind.u64.wrap x), .int .i64 n] W fun e w' => e = .returned (.tuple #[]) ∧ ∃ row', Hid (PS w B g m bp r0 t cs (wFix m s (un x) n) w' row') := by
  rw [← un_val]
  exact (fixed_any g B m s row (un x) n _ h.wr (un_lt x) hm).mono fun e w' hh => h.next (Below.refl _ _) hh
theorem PS.cells {w : World} {B g m bp : Nat} {r0 : Option Nat} {t : TypeId} {cs : Array Value} {s : Int × List UInt8} {W : World} {row : Option Nat} (h : PS w B g m bp r0 t cs s W row) (i : Nat) : W.cell? ⟨bp, i, none⟩ = cs[i]? := h.box.cell i
theorem PS.post {w : World} {B g m bp : Nat} {r0 : Option Nat} {t : TypeId} {cs : Array Value} {s : Int × List UInt8} {W : World} {row : Option Nat} (h : PS w B g m bp r0 t cs s W row) : WPost w B g m r0 s (.returned (.tuple #[])) W := ⟨rfl, row, h.wr, h.step⟩
theorem sev_len10 (x : Nat) (h : x < 18446744073709551616) : (sev x).length ≤ 10 := by
  have := BufM.sev_len 9 x (by omega)
  omega
set_option maxRecDepth 100000 in
set_option maxHeartbeats 2000000 in
theorem hput_any (p : Pk) (g B m : Nat) (s : Int × List UInt8) (row : Option Nat) (w : World) (h : WR w B g m s row) (hm : s.2.length ≤ 800000) :
    Calls Try.prog 17 #[.pointer (some ⟨g, 0, none⟩), pval p] w (WPost w B g m row (putS m s p)) := by
  have CF := Lib.hid (fun W => flood_any p.kind W)
  have H0 := Lib.hid (PS.start h 27 p.cells)
  generalize hbp : w.heap.size = bp at *
  have CB : Hid (∀ W row' s' x, PS w B g m bp row 27 p.cells s' W row' → s'.2.length ≤ 900000 → Calls Try.prog 45 #[.pointer (some ⟨g, 0, none⟩), .slice (some ⟨W.heap.size, 0, none⟩) 1 1] (W.alloc (.cells #[.int .u8 (IntKind.u8.wrap x)] 5)) fun e w' => e = .returned (.tuple #[]) ∧ ∃ row2, Hid (PS w B g m bp row 27 p.cells (wByte m s' [kb x]) w' row2)) := Lib.hid (fun W row' s' x h hm => h.byte hm x)
  have l1 : (wByte m s [kb p.kind]).2.length ≤ 800001 := by have := wByte_len (m := m) (s := s) [kb p.kind]; simp only [List.length_singleton] at this; omega
  have e2 : Hid (flo p.kind = false → putS m s p = wByte m s [kb p.kind]) := Lib.hid (fun hf => by unfold putS; rw [if_neg (by rw [hf]; decide)])
  have e1 : Hid (flo p.kind = true → putS m s p = wFix m (wByte m (wNum m (wByte m (wByte m s [kb p.kind]) [kb p.hops]) (un p.key.1)) [kb p.key.2.1]) (un p.key.2.2) 4) := Lib.hid (fun hf => by unfold putS; rw [if_pos hf])
  generalize putS m s p = fin at *
  obtain ⟨fl, hfl⟩ : ∃ fl, Hid (flo p.kind = fl) := ⟨_, Lib.hid rfl⟩
  rw [hfl.out] at CF e1 e2
  obtain ⟨s1, hs1⟩ : ∃ s1, Hid (wByte m s [kb p.kind] = s1) := ⟨_, Lib.hid rfl⟩
  have C1 := Lib.hid (CB.out _ _ _ p.kind H0.out (by omega))
  rw [hs1.out] at l1 C1 e1 e2
  have l2 : (wByte m s1 [kb p.hops]).2.length ≤ 800002 := by have := wByte_len (m := m) (s := s1) [kb p.hops]; simp only [List.length_singleton] at this; omega
  have C2 : Hid (∀ W row', PS w B g m bp row 27 p.cells s1 W row' → Calls Try.prog 45 #[.pointer (some ⟨g, 0, none⟩), .slice (some ⟨W.heap.size, 0, none⟩) 1 1] (W.alloc (.cells #[.int .u8 (IntKind.u8.wrap p.hops)] 5)) fun e w' => e = .returned (.tuple #[]) ∧ ∃ row2, Hid (PS w B g m bp row 27 p.cells (wByte m s1 [kb p.hops]) w' row2)) := Lib.hid (fun W row' h => h.byte (by omega) _)
  generalize wByte m s1 [kb p.hops] = s2 at *
  have l3 : (wNum m s2 (un p.key.1)).2.length ≤ 800012 := by
    unfold wNum
    have := wByte_len (m := m) (s := s2) (sev (un p.key.1))
    have := sev_len10 (un p.key.1) (un_lt _)
    omega
  have C3 : Hid (∀ W row', PS w B g m bp row 27 p.cells s2 W row' → Calls Try.prog 46 #[.pointer (some ⟨g, 0, none⟩), .int .u64 (IntKind.u64.wrap p.key.1)] W fun e w' => e = .returned (.tuple #[]) ∧ ∃ row2, Hid (PS w B g m bp row 27 p.cells (wNum m s2 (un p.key.1)) w' row2)) := Lib.hid (fun W row' h => h.num (by omega) _)
  generalize wNum m s2 (un p.key.1) = s3 at *
  have l4 : (wByte m s3 [kb p.key.2.1]).2.length ≤ 800013 := by have := wByte_len (m := m) (s := s3) [kb p.key.2.1]; simp only [List.length_singleton] at this; omega
  have C4 : Hid (∀ W row', PS w B g m bp row 27 p.cells s3 W row' → Calls Try.prog 45 #[.pointer (some ⟨g, 0, none⟩), .slice (some ⟨W.heap.size, 0, none⟩) 1 1] (W.alloc (.cells #[.int .u8 (IntKind.u8.wrap p.key.2.1)] 5)) fun e w' => e = .returned (.tuple #[]) ∧ ∃ row2, Hid (PS w B g m bp row 27 p.cells (wByte m s3 [kb p.key.2.1]) w' row2)) := Lib.hid (fun W row' h => h.byte (by omega) _)
  generalize wByte m s3 [kb p.key.2.1] = s4 at *
  have C5 : Hid (∀ W row', PS w B g m bp row 27 p.cells s4 W row' → Calls Try.prog 47 #[.pointer (some ⟨g, 0, none⟩), .int .u64 (IntKind.u64.wrap p.key.2.2), .int .i64 4] W fun e w' => e = .returned (.tuple #[]) ∧ ∃ row2, Hid (PS w B g m bp row 27 p.cells (wFix m s4 (un p.key.2.2) 4) w' row2)) := Lib.hid (fun W row' h => h.fix (by omega) _ _)
  generalize wFix m s4 (un p.key.2.2) 4 = s5 at *
  have HE : Hid (∀ s' W row', PS w B g m bp row 27 p.cells s' W row' → WPost w B g m row s' (.returned (.tuple #[])) W) := Lib.hid (fun s' W row' h => h.post)
  have HC : Hid (∀ s' W row', PS w B g m bp row 27 p.cells s' W row' → W.cell? ⟨bp, 0, none⟩ = some (.int .i64 p.kind) ∧ W.cell? ⟨bp, 1, none⟩ = some (.int .i64 p.key.1) ∧ W.cell? ⟨bp, 2, none⟩ = some (.int .i64 p.key.2.1) ∧ W.cell? ⟨bp, 3, none⟩ = some (.int .u32 p.key.2.2) ∧ W.cell? ⟨bp, 4, none⟩ = some (.int .i64 p.hops)) := Lib.hid (fun s' W row' h => ⟨h.cells 0, h.cells 1, h.cells 2, h.cells 3, h.cells 4⟩)
  obtain ⟨W0, hW0⟩ : ∃ W0, Hid (w.alloc (.cells p.cells 27) = W0) := ⟨_, Lib.hid rfl⟩
  rw [hW0.out] at H0 C1
  obtain ⟨kind, ⟨t, f, q⟩, hops, no, to, index, total, stamp, value, ad, cap, body⟩ := p
  simp only at CF C1 C2 C3 C4 C5 HC
  unfold pval
  unfold Pk.cells at hW0 ⊢
  simp only at hW0 ⊢
  clear h CB hs1 l1 l2 l3 l4 hfl
  go_enter Try.func17, Try.ntmps17
  go_upto_region 1 with fail
  rw [hW0.out]
  try rw [hbp]
  obtain ⟨c0, c1, c2, c3, c4⟩ := HC.out _ _ _ H0.out
  go_wp2_with fail
  refine (C1.out).mono ?_; rintro e w1 ⟨rfl, row1, H1⟩
  clear c0 c1 c2 c3 c4 C1
  obtain ⟨c0, c1, c2, c3, c4⟩ := HC.out _ _ _ H1.out
  go_wp2_with fail
  refine (CF.out _).mono ?_; rintro e w' ⟨rfl, rfl⟩
  cases fl with
  | false =>
    go_wp2_with fail
    go_returns
    rw [e2.out (by simp)]
    exact HE.out _ _ _ H1.out
  | true =>
    go_wp2_with fail
    refine (C2.out _ _ H1.out).mono ?_; rintro e w2 ⟨rfl, row2, H2⟩
    clear c0 c1 c2 c3 c4 C2
    obtain ⟨c0, c1, c2, c3, c4⟩ := HC.out _ _ _ H2.out
    go_wp2_with fail
    refine (C3.out _ _ H2.out).mono ?_; rintro e w3 ⟨rfl, row3, H3⟩
    clear c0 c1 c2 c3 c4 C3
    obtain ⟨c0, c1, c2, c3, c4⟩ := HC.out _ _ _ H3.out
    go_wp2_with fail
    refine (C4.out _ _ H3.out).mono ?_; rintro e w4 ⟨rfl, row4, H4⟩
    clear c0 c1 c2 c3 c4 C4
    obtain ⟨c0, c1, c2, c3, c4⟩ := HC.out _ _ _ H4.out
    go_wp2_with fail
    refine (C5.out _ _ H4.out).mono ?_; rintro e w5 ⟨rfl, row5, H5⟩
    go_wp2_with fail
    go_returns
    rw [e1.out (by simp)]
    exact HE.out _ _ _ H5.out
end Go.Proofs.Ytliblcjfccijjaa.Hed
