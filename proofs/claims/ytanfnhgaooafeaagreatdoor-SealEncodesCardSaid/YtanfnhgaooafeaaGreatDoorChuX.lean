/- ChuM ChuA ChuQ, laid into one. -/
import Derived.Test.YtanfnhgaooafeaaGreatDoorPktA
import Derived.Test.YtanfnhgaooafeaaGreatDoorHedL
import Derived.Test.YtanfnhgaooafeaaGreatDoorHedX
import Derived.Test.YtanfnhgaooafeaaGreatDoorDatZ
/-! ChuM -/
namespace Go.Proofs.YtanfnhgaooafeaaGreatDoor.Chu
open Go.ChangeShapes Go.WideShapes Go.ChangeAt Go.RowKit Go.Deep
open Go.Proofs.YtanfnhgaooafeaaGreatDoor.Byt Go.Proofs.YtanfnhgaooafeaaGreatDoor.Key Go.Proofs.YtanfnhgaooafeaaGreatDoor.Buf Go.Proofs.YtanfnhgaooafeaaGreatDoor.Hed Go.Proofs.YtanfnhgaooafeaaGreatDoor.Dat Go.Proofs.YtanfnhgaooafeaaGreatDoor.BufM Go.Proofs.YtanfnhgaooafeaaGreatDoor.Pkt
set_option linter.unusedVariables false
set_option linter.unusedSimpArgs false
/-- Is it a node? -/
def ndOk (n : Int) : Bool := decide (0 ≤ n) && decide (n < 64)
/-- Is it one of so many? -/
def plOk (i t : Int) : Bool := decide (1 ≤ t) && (decide (t ≤ 255) && (decide (0 ≤ i) && decide (i < t)))
theorem ndOk_iff (n : Int) : ndOk n = true ↔ 0 ≤ n ∧ n < 64 := by
  unfold ndOk
  simp only [Bool.and_eq_true, decide_eq_true_eq]
theorem plOk_iff (i t : Int) : plOk i t = true ↔ 1 ≤ t ∧ t ≤ 255 ∧ 0 ≤ i ∧ i < t := by
  unfold plOk
  simp only [Bool.and_eq_true, decide_eq_true_eq]
/-- A chunk. -/
def chuP (k : Ky) (no to index total : Int) (ad : Option Addr) (cap : Nat) (body : List UInt8) : Pk := ⟨6, k, 1, no, to, index, total, 0, 0, ad, cap, body⟩
/-- May the packet be one? In the program's order. -/
def chuG (p : Pk) : Bool := (p.kind == 6) && (gd p && (noOk p.no && (ndOk p.to && (plOk p.index p.total && (decide ((p.body.length : Int) ≤ 64) && ((p.stamp == 0) && (p.value == 0)))))))
theorem chuG_iff (p : Pk) : chuG p = true ↔ p.kind = 6 ∧ gd p = true ∧ (0 ≤ p.no ∧ p.no ≤ 1152921504606846976) ∧ (0 ≤ p.to ∧ p.to < 64) ∧ (1 ≤ p.total ∧ p.total ≤ 255 ∧ 0 ≤ p.index ∧ p.index < p.total) ∧ p.body.length ≤ 64 ∧ p.stamp = 0 ∧ p.value = 0 := by
  unfold chuG
  simp only [Bool.and_eq_true, noOk_iff, ndOk_iff, plOk_iff, beq_iff_eq, decide_eq_true_eq]
  constructor
  · rintro ⟨h1, h2, h3, h4, h5, h6, h7, h8⟩
    exact ⟨h1, h2, h3, h4, h5, by omega, h7, h8⟩
  · rintro ⟨h1, h2, h3, h4, h5, h6, h7, h8⟩
    exact ⟨h1, h2, h3, h4, h5, by omega, h7, h8⟩
/-- In the document's order. -/
theorem chuG_b (p : Pk) : chuG p = ((p.kind == 6) && (gd p && ((p.stamp == 0) && ((p.value == 0) && (decide ((p.body.length : Int) ≤ 64) && (decide (0 ≤ p.no) && (decide (p.no ≤ 1152921504606846976) && (decide (0 ≤ p.to) && (decide (p.to < 64) && (decide (0 < p.total) && (decide (p.total < 256) && (decide (0 ≤ p.index) && decide (p.index < p.total))))))))))))) := by
  rw [Bool.eq_iff_iff, chuG_iff]
  simp only [Bool.and_eq_true, beq_iff_eq, decide_eq_true_eq]
  constructor
  · rintro ⟨h1, h2, ⟨h3, h3b⟩, ⟨h4, h4b⟩, ⟨h5, h5b, h5c, h5d⟩, h6, h7, h8⟩
    exact ⟨h1, h2, h7, h8, by omega, h3, h3b, h4, h4b, by omega, by omega, h5c, h5d⟩
  · rintro ⟨h1, h2, h7, h8, h6, h3, h3b, h4, h4b, h5, h5b, h5c, h5d⟩
    exact ⟨h1, h2, ⟨h3, h3b⟩, ⟨h4, h4b⟩, ⟨by omega, by omega, h5c, h5d⟩, by omega, h7, h8⟩
theorem row_one (kind t f q hops no to index total stamp value : Int) (ad : Option Addr) (n cap : Nat) : (#[.int .i64 kind, .int .i64 t, .int .i64 f, .int .u32 q, .int .i64 hops, .int .i64 no, .int .i64 to, .int .i64 index, .int .i64 total, .int .i64 stamp, .int .i64 value, .slice ad n cap] : Array Value).all (·.oneCell') = true := by simp [Value.oneCell']
/-- Do two belong together? -/
def mateB (a b : Pk) : Bool := chuG a && (chuG b && ((a.to == b.to) && ((a.no == b.no) && (a.total == b.total))))
end Go.Proofs.YtanfnhgaooafeaaGreatDoor.Chu
/-! ChuA -/
namespace Go.Proofs.YtanfnhgaooafeaaGreatDoor.Chu
open Go.ChangeShapes Go.WideShapes Go.ChangeAt Go.RowKit Go.Deep
open Go.Proofs.YtanfnhgaooafeaaGreatDoor.Byt Go.Proofs.YtanfnhgaooafeaaGreatDoor.Key Go.Proofs.YtanfnhgaooafeaaGreatDoor.Buf Go.Proofs.YtanfnhgaooafeaaGreatDoor.Hed Go.Proofs.YtanfnhgaooafeaaGreatDoor.Dat Go.Proofs.YtanfnhgaooafeaaGreatDoor.BufM Go.Proofs.YtanfnhgaooafeaaGreatDoor.Pkt
set_option linter.unusedVariables false
set_option linter.unusedSimpArgs false
theorem cisno_any (n : Int) (w : World) :
    Calls Tryz.prog 76 #[.int .i64 n] w fun e w' => e = .returned (.bool (noOk n)) ∧ w = w' := by
  unfold noOk
  obtain ⟨a, ha⟩ : ∃ a, decide (0 ≤ n) = a := ⟨_, rfl⟩
  obtain ⟨b, hb⟩ : ∃ b, decide (n ≤ 1152921504606846976) = b := ⟨_, rfl⟩
  have ha2 : decide (n ≥ 0) = a := ha
  rw [ha, hb]
  cases a with
  | false =>
    go_enter Tryz.func76, Tryz.ntmps76
    go_wp2_with fail
    go_ret
    exact ⟨rfl, rfl⟩
  | true =>
    go_enter Tryz.func76, Tryz.ntmps76
    go_wp2_with fail
    go_ret
    exact ⟨by simp, rfl⟩
theorem cisnode_any (n : Int) (w : World) :
    Calls Tryz.prog 77 #[.int .i64 n] w fun e w' => e = .returned (.bool (ndOk n)) ∧ w = w' := by
  unfold ndOk
  obtain ⟨a, ha⟩ : ∃ a, decide (0 ≤ n) = a := ⟨_, rfl⟩
  obtain ⟨b, hb⟩ : ∃ b, decide (n < 64) = b := ⟨_, rfl⟩
  have ha2 : decide (n ≥ 0) = a := ha
  rw [ha, hb]
  cases a with
  | false =>
    go_enter Tryz.func77, Tryz.ntmps77
    go_wp2_with fail
    go_ret
    exact ⟨rfl, rfl⟩
  | true =>
    go_enter Tryz.func77, Tryz.ntmps77
    go_wp2_with fail
    go_ret
    exact ⟨by simp, rfl⟩
set_option maxRecDepth 100000 in
theorem cisplace_any (i t : Int) (w : World) :
    Calls Tryz.prog 78 #[.int .i64 i, .int .i64 t] w fun e w' => e = .returned (.bool (plOk i t)) ∧ w = w' := by
  unfold plOk
  obtain ⟨a, ha⟩ : ∃ a, decide (1 ≤ t) = a := ⟨_, rfl⟩
  obtain ⟨b, hb⟩ : ∃ b, decide (t ≤ 255) = b := ⟨_, rfl⟩
  obtain ⟨c, hc⟩ : ∃ c, decide (0 ≤ i) = c := ⟨_, rfl⟩
  obtain ⟨d, hd⟩ : ∃ d, decide (i < t) = d := ⟨_, rfl⟩
  have ha2 : decide (t ≥ 1) = a := ha
  have hc2 : decide (i ≥ 0) = c := hc
  rw [ha, hb, hc, hd]
  cases a with
  | false =>
    go_enter Tryz.func78, Tryz.ntmps78
    go_wp2_with fail
    go_ret
    exact ⟨by simp, rfl⟩
  | true =>
    cases b with
    | false =>
      go_enter Tryz.func78, Tryz.ntmps78
      go_wp2_with fail
      go_ret
      exact ⟨by simp, rfl⟩
    | true =>
      cases c with
      | false =>
        go_enter Tryz.func78, Tryz.ntmps78
        go_wp2_with fail
        go_ret
        exact ⟨by simp, rfl⟩
      | true =>
        go_enter Tryz.func78, Tryz.ntmps78
        go_wp2_with fail
        go_ret
        exact ⟨by simp, rfl⟩
set_option maxRecDepth 100000 in
theorem cfound_any (g : Nat) (s : St) (b : Bool) (wr : Int) (w : World) (h : RR w g s) :
    Calls Tryz.prog 97 #[.pointer (some ⟨g, 0, none⟩), .bool b, .int .i64 wr] w fun e w' => e = .returned (.int .i64 (fnd s b wr)) ∧ w = w' := by
  have CE := Lib.hid (Buf.err_any g s w h)
  unfold fnd
  generalize s.1 = e0 at *
  clear h
  by_cases he : e0 = 0
  · subst he
    rw [if_pos rfl]
    cases b with
    | true =>
      rw [if_pos rfl]
      go_enter Tryz.func97, Tryz.ntmps97
      go_wp2_with fail
      refine (CE.out).mono ?_; rintro e w' ⟨rfl, rfl⟩
      go_wp2_with fail
      go_ret
      exact ⟨rfl, rfl⟩
    | false =>
      rw [if_neg (by decide)]
      go_enter Tryz.func97, Tryz.ntmps97
      go_wp2_with fail
      refine (CE.out).mono ?_; rintro e w' ⟨rfl, rfl⟩
      go_wp2_with fail
      go_ret
      exact ⟨rfl, rfl⟩
  · rw [if_neg he]
    have hne : (e0 != 0) = true := by simpa using he
    clear he
    go_enter Tryz.func97, Tryz.ntmps97
    go_wp2_with fail
    refine (CE.out).mono ?_; rintro e w' ⟨rfl, rfl⟩
    go_wp2_with fail
    go_ret
    exact ⟨rfl, rfl⟩
end Go.Proofs.YtanfnhgaooafeaaGreatDoor.Chu
/-! ChuQ -/
namespace Go.Proofs.YtanfnhgaooafeaaGreatDoor.Chu
open Go.ChangeShapes Go.WideShapes Go.ChangeAt Go.RowKit Go.Deep
open Go.Proofs.YtanfnhgaooafeaaGreatDoor.Byt Go.Proofs.YtanfnhgaooafeaaGreatDoor.Key Go.Proofs.YtanfnhgaooafeaaGreatDoor.Buf Go.Proofs.YtanfnhgaooafeaaGreatDoor.Hed Go.Proofs.YtanfnhgaooafeaaGreatDoor.Dat Go.Proofs.YtanfnhgaooafeaaGreatDoor.BufM Go.Proofs.YtanfnhgaooafeaaGreatDoor.Pkt
set_option linter.unusedVariables false
set_option linter.unusedSimpArgs false
/-- Three bytes that the caller lays. -/
theorem rd_three (W : World) (x y z : Int) : RdB (W.alloc (.cells #[.int .u8 (IntKind.u8.wrap x), .int .u8 (IntKind.u8.wrap y), .int .u8 (IntKind.u8.wrap z)] 5)) (some ⟨W.heap.size, 0, none⟩) [kb x, kb y, kb z] := by
  refine .inr ⟨W.heap.size, 0, rfl, fun i hi => ?_⟩
  have hb : Blk (W.alloc (.cells #[.int .u8 (IntKind.u8.wrap x), .int .u8 (IntKind.u8.wrap y), .int .u8 (IntKind.u8.wrap z)] 5)) W.heap.size 5 #[.int .u8 (IntKind.u8.wrap x), .int .u8 (IntKind.u8.wrap y), .int .u8 (IntKind.u8.wrap z)] := Blk.new _ _ _
  rw [Nat.zero_add, hb.cell, ← kb_val, ← kb_val, ← kb_val]
  match i, hi with
  | 0, _ => rfl
  | 1, _ => rfl
  | 2, _ => rfl
  | n + 3, h => exfalso; simp only [List.length_cons, List.length_nil] at h; omega
/-- What Put leaves with a writer. -/
def chuS (m : Nat) (s : Int × List UInt8) (p : Pk) : Int × List UInt8 := wBytes m (wByte m (wNum m s (un p.no)) [kb p.to, kb p.index, kb p.total]) p.body
set_option maxRecDepth 100000 in
set_option maxHeartbeats 2000000 in
theorem cput_any (p : Pk) (g B m : Nat) (s : Int × List UInt8) (row : Option Nat) (w : World) (h : WR w B g m s row) (hm : s.2.length + p.body.length ≤ 800000) (hr : RdB w p.ad p.body) (hn : p.ad = none → p.cap = 0)
    (hsep : p.body ≠ [] → ∀ b o, p.ad = some ⟨b, o, none⟩ → b ≠ g ∧ some b ≠ row) :
    Calls Tryz.prog 41 #[.pointer (some ⟨g, 0, none⟩), pval p] w (WPost w B g m row (chuS m s p)) := by
  have H0 := Lib.hid (PS.start h 27 p.cells)
  have hlt := h.le
  have HL : Hid (∀ b, some b = row → b < w.heap.size) := Lib.hid (fun b e => row_lt h e.symm)
  generalize hbp : w.heap.size = bp at *
  have HR : Hid (∀ s' W row', PS w B g m bp row 27 p.cells s' W row' → RdB W p.ad p.body ∧ (p.body ≠ [] → ∀ b o, p.ad = some ⟨b, o, none⟩ → b ≠ g ∧ some b ≠ row')) := Lib.hid (fun s' W row' hP => by
    have hlt2 : p.body ≠ [] → ∀ b o, p.ad = some ⟨b, o, none⟩ → b < bp := fun hne b o e => by
      rcases hr with h0 | ⟨b2, off, e2, hc⟩
      · exact absurd h0 hne
      · rw [e] at e2
        cases e2
        have := RdB.lt hc (List.length_pos_iff.2 hne)
        omega
    refine ⟨rd_kept hr fun hne b o e _ => hP.step.block b (by rw [hbp]; exact hlt2 hne b o e) (hsep hne b o e).1 (hsep hne b o e).2, fun hne b o e => ⟨(hsep hne b o e).1, ?_⟩⟩
    rcases hP.step.new with e3 | e3
    · rw [e3]; exact (hsep hne b o e).2
    · intro e4
      have h1 := e3 b e4.symm
      have h2 := hlt2 hne b o e
      omega)
  have C1 : Hid (∀ W row', PS w B g m bp row 27 p.cells s W row' → Calls Tryz.prog 45 #[.pointer (some ⟨g, 0, none⟩), .int .u64 (IntKind.u64.wrap p.no)] W fun e w' => e = .returned (.tuple #[]) ∧ ∃ row2, Hid (PS w B g m bp row 27 p.cells (wNum m s (un p.no)) w' row2)) := Lib.hid (fun W row' h => h.num (by omega) _)
  have l1 : (wNum m s (un p.no)).2.length ≤ s.2.length + 10 := by
    unfold wNum
    have := wByte_len (m := m) (s := s) (sev (un p.no))
    have := sev_len10 (un p.no) (un_lt _)
    omega
  unfold chuS
  generalize wNum m s (un p.no) = s1 at *
  have C2 : Hid (∀ W row', PS w B g m bp row 27 p.cells s1 W row' → Calls Tryz.prog 43 #[.pointer (some ⟨g, 0, none⟩), .slice (some ⟨W.heap.size, 0, none⟩) 3 3] (W.alloc (.cells #[.int .u8 (IntKind.u8.wrap p.to), .int .u8 (IntKind.u8.wrap p.index), .int .u8 (IntKind.u8.wrap p.total)] 5)) fun e w' => e = .returned (.tuple #[]) ∧ ∃ row2, Hid (PS w B g m bp row 27 p.cells (wByte m s1 [kb p.to, kb p.index, kb p.total]) w' row2)) := Lib.hid (fun W row' h => by
    have hB : Below W.heap.size W (W.alloc (.cells #[.int .u8 (IntKind.u8.wrap p.to), .int .u8 (IntKind.u8.wrap p.index), .int .u8 (IntKind.u8.wrap p.total)] 5)) := (Below.refl _ _).alloc (Nat.le_refl _) _
    exact (byte_any g B m s1 row' (some ⟨W.heap.size, 0, none⟩) 3 3 _ _ (h.wr.kept hB) rfl (by omega) (rd_three W p.to p.index p.total) (fun e => by cases e)).mono fun e w' hh => h.next hB hh)
  have l2 : (wByte m s1 [kb p.to, kb p.index, kb p.total]).2.length ≤ s1.2.length + 3 := wByte_len _
  generalize wByte m s1 [kb p.to, kb p.index, kb p.total] = s2 at *
  have C3 : Hid (∀ W row', PS w B g m bp row 27 p.cells s2 W row' → Calls Tryz.prog 72 #[.pointer (some ⟨g, 0, none⟩), .slice p.ad p.body.length p.cap] W fun e w' => e = .returned (.tuple #[]) ∧ ∃ row2, Hid (PS w B g m bp row 27 p.cells (wBytes m s2 p.body) w' row2)) := Lib.hid (fun W row' h => (wbytes_any g B m s2 row' p.ad p.body.length p.cap p.body W h.wr rfl (by omega) (HR.out _ _ _ h).1 hn (HR.out _ _ _ h).2).mono fun e w' hh => h.next (Below.refl _ _) hh)
  generalize wBytes m s2 p.body = s3 at *
  have HE : Hid (∀ s' W row', PS w B g m bp row 27 p.cells s' W row' → WPost w B g m row s' (.returned (.tuple #[])) W) := Lib.hid (fun s' W row' h => h.post)
  have HC : Hid (∀ s' W row', PS w B g m bp row 27 p.cells s' W row' → _) := Lib.hid (fun s' W row' h => blk_cells h.box)
  obtain ⟨W0, hW0⟩ : ∃ W0, Hid (w.alloc (.cells p.cells 27) = W0) := ⟨_, Lib.hid rfl⟩
  rw [hW0.out] at H0
  obtain ⟨kind, ⟨t, f, q⟩, hops, no, to, index, total, stamp, value, ad, cap, body⟩ := p
  simp only at C1 C2 C3 HC
  unfold pval
  unfold Pk.cells at hW0 ⊢
  obtain ⟨n, hnn⟩ : ∃ n, body.length = n := ⟨_, rfl⟩
  simp only [hnn] at hW0 C3 HC ⊢
  clear h hr hn hsep HR l1 l2 hm HL hlt hnn
  go_enter Tryz.func41, Tryz.ntmps41
  go_upto_region 1 with fail
  rw [hW0.out]
  try rw [hbp]
  obtain ⟨c0, c1, c2, c3, c4, c5, c6, c7, c8, c9, c10, c11⟩ := HC.out _ _ _ H0.out
  go_wp2_with fail
  refine (C1.out _ _ H0.out).mono ?_; rintro e w1 ⟨rfl, row1, H1⟩
  clear c0 c1 c2 c3 c4 c5 c6 c7 c8 c9 c10 c11 C1
  obtain ⟨c0, c1, c2, c3, c4, c5, c6, c7, c8, c9, c10, c11⟩ := HC.out _ _ _ H1.out
  go_wp2_with fail
  refine (C2.out _ _ H1.out).mono ?_; rintro e w2 ⟨rfl, row2, H2⟩
  clear c0 c1 c2 c3 c4 c5 c6 c7 c8 c9 c10 c11 C2
  obtain ⟨c0, c1, c2, c3, c4, c5, c6, c7, c8, c9, c10, c11⟩ := HC.out _ _ _ H2.out
  go_wp2_with fail
  refine (C3.out _ _ H2.out).mono ?_; rintro e w3 ⟨rfl, row3, H3⟩
  go_wp2_with fail
  go_returns
  exact HE.out _ _ _ H3.out
end Go.Proofs.YtanfnhgaooafeaaGreatDoor.Chu
