/- HedA HedB HedC HedD HedE HedG HedI HedJ HedO, laid into one. -/
import Derived.Test.YtanfnhgaooafeaaGreatDoorBufX
import Derived.Test.YtanfnhgaooafeaaGreatDoorBytA
import Derived.Test.YtanfnhgaooafeaaGreatDoorKeyX
import Derived.Deep.Slices
import Derived.Deep.Fields
import Derived.OpenShut
import Derived.Deep.Cut
import Derived.Lib.SliceRun
import Derived.Laws.CopyOwn
import Derived.Laws.Tables
import Derived.SizedLaws
/-! HedA -/
namespace Go.Proofs.YtanfnhgaooafeaaGreatDoor.Hed
open Go.ChangeShapes Go.WideShapes Go.ChangeAt Go.RowKit Go.Deep
open Go.Proofs.YtanfnhgaooafeaaGreatDoor.Byt Go.Proofs.YtanfnhgaooafeaaGreatDoor.Key
set_option linter.unusedVariables false
set_option linter.unusedSimpArgs false
/-- A packet: its numbers, its key, where its body lies, its body. -/
structure Pk where
  kind : Int
  key : Ky
  hops : Int
  no : Int
  to : Int
  index : Int
  total : Int
  stamp : Int
  value : Int
  ad : Option Addr
  cap : Nat
  body : List UInt8
def Pk.cells (p : Pk) : Array Value := #[.int .i64 p.kind, .int .i64 p.key.1, .int .i64 p.key.2.1, .int .u32 p.key.2.2, .int .i64 p.hops, .int .i64 p.no, .int .i64 p.to, .int .i64 p.index, .int .i64 p.total, .int .i64 p.stamp, .int .i64 p.value, .slice p.ad p.body.length p.cap]
def pval (p : Pk) : Value := .agg p.cells
/-- What a packet's type holds, its body lying in the world. -/
structure Ok (w : World) (p : Pk) : Prop where
  kind : -9223372036854775808 ≤ p.kind ∧ p.kind ≤ 9223372036854775807
  key : Key.ok p.key
  hops : -9223372036854775808 ≤ p.hops ∧ p.hops ≤ 9223372036854775807
  rd : RdB w p.ad p.body
  nil : p.ad = none → p.cap = 0
  le : p.body.length ≤ p.cap
  max : p.cap ≤ 9223372036854775807
  form : p.body.length = 0 ∨ ∃ b off, p.ad = some ⟨b, off, none⟩
theorem Ok.below {w w' : World} {p : Pk} (h : Ok w p) (hb : Below w.heap.size w w') : Ok w' p := ⟨h.kind, h.key, h.hops, h.rd.below hb, h.nil, h.le, h.max, h.form⟩
theorem cellsP : Tryz.prog.cellsOf 27 = 12 := by kernel_rfl
section
variable {H : Type} {enc0 : TypeId × Value → H} {w : World}
theorem cellsK : Tryz.prog.cellsOf 24 = 3 := by kernel_rfl
set_option maxRecDepth 100000 in
theorem open_kcells {n : Nat} {cs : List Value} {x : DataW H × List MemPlace} (h : DataW.trod enc0 Tryz.prog w 0 (fun _ => true) true n 24 cs = some x) : ∃ t : Ky, cs = Key.enc t ∧ Key.ok t := by
  obtain ⟨ys, n', _, _, hlen, hys, hf⟩ := DataW.trod_struct Tryz.underlying24 h
  rw [cellsK] at hlen
  match cs, hlen, ys, hys with
  | [c0, c1, c2], _, [y0, y1, y2], _ =>
    have h0 : DataW.trod enc0 Tryz.prog w 0 (fun _ => true) true n' 2 (([c0, c1, c2].drop 0).take (Tryz.prog.cellsOf 2)) = some y0 := hf 0 _ rfl
    rw [show Tryz.prog.cellsOf 2 = 1 from by kernel_rfl] at h0
    simp only [List.drop_zero, List.take_succ_cons, List.take_zero] at h0
    have h1 : DataW.trod enc0 Tryz.prog w 0 (fun _ => true) true n' 3 (([c0, c1, c2].drop 1).take (Tryz.prog.cellsOf 3)) = some y1 := hf 1 _ rfl
    rw [show Tryz.prog.cellsOf 3 = 1 from by kernel_rfl] at h1
    simp only [List.drop_succ_cons, List.drop_zero, List.take_succ_cons, List.take_zero] at h1
    have h2 : DataW.trod enc0 Tryz.prog w 0 (fun _ => true) true n' 22 (([c0, c1, c2].drop 2).take (Tryz.prog.cellsOf 22)) = some y2 := hf 2 _ rfl
    rw [show Tryz.prog.cellsOf 22 = 1 from by kernel_rfl] at h2
    simp only [List.drop_succ_cons, List.drop_zero, List.take_succ_cons, List.take_zero] at h2
    obtain ⟨a, e0, _, w0⟩ := DataW.trod_int Tryz.underlying2 h0
    obtain ⟨b, e1, _, w1⟩ := DataW.trod_int Tryz.underlying3 h1
    obtain ⟨c, e2, _, w2⟩ := DataW.trod_int Tryz.underlying22 h2
    obtain ⟨k0, k1⟩ := bounds_i64 w0
    obtain ⟨x0, x1⟩ := bounds_i64 w1
    obtain ⟨m0, m1⟩ := bounds_u32 w2
    refine ⟨(a, b, c), ?_, ⟨k0, k1⟩, ⟨x0, x1⟩, m0, by simp only; omega⟩
    simp only [List.cons.injEq, and_true] at e0 e1 e2
    rw [e0, e1, e2]
    rfl

set_option maxRecDepth 100000 in
theorem open_cells {n : Nat} {cs : List Value} {x : DataW H × List MemPlace} (h : DataW.trod enc0 Tryz.prog w 0 (fun _ => true) true n 27 cs = some x) : ∃ p : Pk, cs = p.cells.toList ∧ Ok w p := by
  obtain ⟨ys, n', _, _, hlen, hys, hf⟩ := DataW.trod_struct Tryz.underlying27 h
  rw [cellsP] at hlen
  match cs, hlen, ys, hys with
  | [c0, c1, c2, c3, c4, c5, c6, c7, c8, c9, c10, c11], _, [y0, y1, y2, y3, y4, y5, y6, y7, y8, y9], _ =>
    have h0 : DataW.trod enc0 Tryz.prog w 0 (fun _ => true) true n' 3 (([c0, c1, c2, c3, c4, c5, c6, c7, c8, c9, c10, c11].drop 0).take (Tryz.prog.cellsOf 3)) = some y0 := hf 0 _ rfl
    rw [show Tryz.prog.cellsOf 3 = 1 from by kernel_rfl] at h0
    simp only [List.drop_succ_cons, List.drop_zero, List.take_succ_cons, List.take_zero] at h0
    have h1 : DataW.trod enc0 Tryz.prog w 0 (fun _ => true) true n' 24 (([c0, c1, c2, c3, c4, c5, c6, c7, c8, c9, c10, c11].drop 1).take (Tryz.prog.cellsOf 24)) = some y1 := hf 1 _ rfl
    rw [show Tryz.prog.cellsOf 24 = 3 from by kernel_rfl] at h1
    simp only [List.drop_succ_cons, List.drop_zero, List.take_succ_cons, List.take_zero] at h1
    have h2 : DataW.trod enc0 Tryz.prog w 0 (fun _ => true) true n' 3 (([c0, c1, c2, c3, c4, c5, c6, c7, c8, c9, c10, c11].drop 4).take (Tryz.prog.cellsOf 3)) = some y2 := hf 2 _ rfl
    rw [show Tryz.prog.cellsOf 3 = 1 from by kernel_rfl] at h2
    simp only [List.drop_succ_cons, List.drop_zero, List.take_succ_cons, List.take_zero] at h2
    have h3 : DataW.trod enc0 Tryz.prog w 0 (fun _ => true) true n' 2 (([c0, c1, c2, c3, c4, c5, c6, c7, c8, c9, c10, c11].drop 5).take (Tryz.prog.cellsOf 2)) = some y3 := hf 3 _ rfl
    rw [show Tryz.prog.cellsOf 2 = 1 from by kernel_rfl] at h3
    simp only [List.drop_succ_cons, List.drop_zero, List.take_succ_cons, List.take_zero] at h3
    have h4 : DataW.trod enc0 Tryz.prog w 0 (fun _ => true) true n' 3 (([c0, c1, c2, c3, c4, c5, c6, c7, c8, c9, c10, c11].drop 6).take (Tryz.prog.cellsOf 3)) = some y4 := hf 4 _ rfl
    rw [show Tryz.prog.cellsOf 3 = 1 from by kernel_rfl] at h4
    simp only [List.drop_succ_cons, List.drop_zero, List.take_succ_cons, List.take_zero] at h4
    have h5 : DataW.trod enc0 Tryz.prog w 0 (fun _ => true) true n' 3 (([c0, c1, c2, c3, c4, c5, c6, c7, c8, c9, c10, c11].drop 7).take (Tryz.prog.cellsOf 3)) = some y5 := hf 5 _ rfl
    rw [show Tryz.prog.cellsOf 3 = 1 from by kernel_rfl] at h5
    simp only [List.drop_succ_cons, List.drop_zero, List.take_succ_cons, List.take_zero] at h5
    have h6 : DataW.trod enc0 Tryz.prog w 0 (fun _ => true) true n' 3 (([c0, c1, c2, c3, c4, c5, c6, c7, c8, c9, c10, c11].drop 8).take (Tryz.prog.cellsOf 3)) = some y6 := hf 6 _ rfl
    rw [show Tryz.prog.cellsOf 3 = 1 from by kernel_rfl] at h6
    simp only [List.drop_succ_cons, List.drop_zero, List.take_succ_cons, List.take_zero] at h6
    have h7 : DataW.trod enc0 Tryz.prog w 0 (fun _ => true) true n' 2 (([c0, c1, c2, c3, c4, c5, c6, c7, c8, c9, c10, c11].drop 9).take (Tryz.prog.cellsOf 2)) = some y7 := hf 7 _ rfl
    rw [show Tryz.prog.cellsOf 2 = 1 from by kernel_rfl] at h7
    simp only [List.drop_succ_cons, List.drop_zero, List.take_succ_cons, List.take_zero] at h7
    have h8 : DataW.trod enc0 Tryz.prog w 0 (fun _ => true) true n' 2 (([c0, c1, c2, c3, c4, c5, c6, c7, c8, c9, c10, c11].drop 10).take (Tryz.prog.cellsOf 2)) = some y8 := hf 8 _ rfl
    rw [show Tryz.prog.cellsOf 2 = 1 from by kernel_rfl] at h8
    simp only [List.drop_succ_cons, List.drop_zero, List.take_succ_cons, List.take_zero] at h8
    have h9 : DataW.trod enc0 Tryz.prog w 0 (fun _ => true) true n' 25 (([c0, c1, c2, c3, c4, c5, c6, c7, c8, c9, c10, c11].drop 11).take (Tryz.prog.cellsOf 25)) = some y9 := hf 9 _ rfl
    rw [show Tryz.prog.cellsOf 25 = 1 from by kernel_rfl] at h9
    simp only [List.drop_succ_cons, List.drop_zero, List.take_succ_cons, List.take_zero] at h9
    obtain ⟨k0, e0, _, w0⟩ := DataW.trod_int Tryz.underlying3 h0
    obtain ⟨k1, e1, w1⟩ := open_kcells h1
    obtain ⟨k2, e2, _, w2⟩ := DataW.trod_int Tryz.underlying3 h2
    obtain ⟨k3, e3, _, w3⟩ := DataW.trod_int Tryz.underlying2 h3
    obtain ⟨k4, e4, _, w4⟩ := DataW.trod_int Tryz.underlying3 h4
    obtain ⟨k5, e5, _, w5⟩ := DataW.trod_int Tryz.underlying3 h5
    obtain ⟨k6, e6, _, w6⟩ := DataW.trod_int Tryz.underlying3 h6
    obtain ⟨k7, e7, _, w7⟩ := DataW.trod_int Tryz.underlying2 h7
    obtain ⟨k8, e8, _, w8⟩ := DataW.trod_int Tryz.underlying2 h8
    have hsl : ∃ (a : Option Addr) (len cap : Nat) (zs : List Int), c11 = .slice a len cap ∧ ((a = none ∧ len = 0 ∧ cap = 0 ∧ zs = []) ∨ ∃ x, a = some x ∧ len ≤ cap ∧ cap ≤ maxLen ∧ zs.length = cap ∧ (∀ i, i < zs.length → w.cell? (x.add i) = some (.int .u8 (zs.getD i 0))) ∧ ∀ n ∈ zs, (Lit.int .u8 n).wf = true) := by
      rcases open_ints Tryz.underlying25 Tryz.underlying5 (by kernel_rfl) h9 with ⟨hcs, _⟩ | ⟨x, l, c, zs, hcs, _, hl, hm, hz, _, hcell, hwz⟩
      · exact ⟨none, 0, 0, [], by simpa using hcs, .inl ⟨rfl, rfl, rfl, rfl⟩⟩
      · exact ⟨some x, l, c, zs, by simpa using hcs, .inr ⟨x, rfl, hl, hm, by simpa using hz, hcell, hwz⟩⟩
    obtain ⟨a, len, cap, zs, e9, hz⟩ := hsl
    obtain ⟨bd, hb1, hb2, hb3, hb4, hb5, hb6⟩ := rd_of_row hz
    have hb2 := hb2.out
    refine ⟨⟨k0, k1, k2, k3, k4, k5, k6, k7, k8, a, cap, bd⟩, ?_, ⟨bounds_i64 w0, w1, bounds_i64 w2, hb1.out, hb5.out, by simp only; omega, hb4, by simp only; rw [hb2]; exact hb6⟩⟩
    unfold Key.enc at e1
    simp only [List.cons.injEq, and_true] at e0 e1 e2 e3 e4 e5 e6 e7 e8
    obtain ⟨e1, e1', e1''⟩ := e1
    rw [e0, e1, e1', e1'', e2, e3, e4, e5, e6, e7, e8, e9, ← hb2]
    rfl
set_option maxRecDepth 100000 in
theorem open_pk {r : Reach} {b0 : Nat} {v : Value} {d : DataW H} {pl : List MemPlace} (hv : Value.okWide Tryz.prog w r b0 27 v) (h : DataW.Trod enc0 Tryz.prog w 0 (fun _ => true) true 27 v d pl) : ∃ p : Pk, v = pval p ∧ Ok w p := by
  obtain ⟨cs, rfl, hs⟩ := okWide_struct Tryz.underlying27 hv
  obtain ⟨n, hn⟩ := h
  obtain ⟨t, ht, hok⟩ := open_cells hn
  refine ⟨t, ?_, hok⟩
  unfold pval
  congr 1
  exact Array.toList_inj.1 ht
end
end Go.Proofs.YtanfnhgaooafeaaGreatDoor.Hed
/-! HedB -/
namespace Go.Proofs.YtanfnhgaooafeaaGreatDoor.Hed
open Go.ChangeShapes Go.WideShapes Go.ChangeAt Go.RowKit Go.Deep
open Go.Proofs.YtanfnhgaooafeaaGreatDoor.Byt Go.Proofs.YtanfnhgaooafeaaGreatDoor.Key
set_option linter.unusedVariables false
set_option linter.unusedSimpArgs false
/-- Which kinds are flooded. -/
def flo (k : Int) : Bool := decide (3 ≤ k ∧ k ≤ 6)
/-- What a kind is called. -/
def nm (k : Int) : ByteArray :=
  if k = 1 then ⟨#[112, 114, 111, 98, 101]⟩ else if k = 2 then ⟨#[101, 99, 104, 111]⟩ else if k = 3 then ⟨#[98, 101, 97, 99, 111, 110]⟩
  else if k = 4 then ⟨#[100, 97, 116, 97]⟩ else if k = 5 then ⟨#[97, 116, 116, 101, 110, 100]⟩ else if k = 6 then ⟨#[99, 104, 117, 110, 107]⟩ else ⟨#[63]⟩
def okHops (h : Int) : Bool := decide (1 ≤ h ∧ h ≤ 63)
/-- May the packet's head be? -/
def gd (p : Pk) : Bool := if flo p.kind then (okHops p.hops && goodK p.key) else (decide (1 ≤ p.kind ∧ p.kind ≤ 2) && decide (p.hops = 0) && eqK p.key (0, 0, 0))
theorem flo_yes {k : Int} (h : 3 ≤ k ∧ k ≤ 6) : flo k = true := decide_eq_true h
theorem flo_no {k : Int} (h : ¬ (3 ≤ k ∧ k ≤ 6)) : flo k = false := decide_eq_false h
theorem flood_any (k : Int) (w : World) :
    Calls Tryz.prog 44 #[.int .i64 k] w fun e w' => e = .returned (.bool (flo k)) ∧ w = w' := by
  by_cases h : 3 ≤ k ∧ k ≤ 6
  · rw [flo_yes h]
    obtain rfl | rfl | rfl | rfl : k = 3 ∨ k = 4 ∨ k = 5 ∨ k = 6 := by omega
    all_goals
      go_enter Tryz.func44, Tryz.ntmps44
      go_wp2_with fail
      go_ret
      exact ⟨rfl, rfl⟩
  · rw [flo_no h]
    have h3 : (k == 3) = false := by simp; omega
    have h4 : (k == 4) = false := by simp; omega
    have h5 : (k == 5) = false := by simp; omega
    have h6 : (k == 6) = false := by simp; omega
    clear h
    go_enter Tryz.func44, Tryz.ntmps44
    go_wp2_with fail
    go_ret
    exact ⟨rfl, rfl⟩
theorem rflood_any (k : Int) (w : World) :
    Calls Tryz.prog 58 #[.int .i64 k] w fun e w' => e = .returned (.bool (flo k)) ∧ w = w' := by
  by_cases h1 : k > 2
  · have e : flo k = decide (k < 7) := by unfold flo; congr 1; apply propext; omega
    rw [e]
    go_enter Tryz.func58, Tryz.ntmps58
    go_wp2_with fail
    go_ret
    exact ⟨rfl, rfl⟩
  · have e : flo k = false := flo_no (by omega)
    rw [e]
    go_enter Tryz.func58, Tryz.ntmps58
    go_wp2_with fail
    go_ret
    exact ⟨rfl, rfl⟩
theorem iskind_any (k : Int) (w : World) :
    Calls Tryz.prog 90 #[.int .i64 k] w fun e w' => e = .returned (.bool (decide (1 ≤ k ∧ k ≤ 6))) ∧ w = w' := by
  by_cases h1 : k ≥ 1
  · have e : decide (1 ≤ k ∧ k ≤ 6) = decide (k ≤ 6) := by congr 1; apply propext; omega
    rw [e]
    go_enter Tryz.func90, Tryz.ntmps90
    go_wp2_with fail
    go_ret
    exact ⟨rfl, rfl⟩
  · have e : decide (1 ≤ k ∧ k ≤ 6) = false := decide_eq_false (by omega)
    rw [e]
    go_enter Tryz.func90, Tryz.ntmps90
    go_wp2_with fail
    go_ret
    exact ⟨rfl, rfl⟩
theorem ishops_any (k : Int) (w : World) :
    Calls Tryz.prog 88 #[.int .i64 k] w fun e w' => e = .returned (.bool (okHops k)) ∧ w = w' := by
  unfold okHops
  by_cases h1 : k ≥ 1
  · have e : decide (1 ≤ k ∧ k ≤ 63) = decide (k ≤ 63) := by congr 1; apply propext; omega
    rw [e]
    go_enter Tryz.func88, Tryz.ntmps88
    go_wp2_with fail
    go_ret
    exact ⟨rfl, rfl⟩
  · have e : decide (1 ≤ k ∧ k ≤ 63) = false := decide_eq_false (by omega)
    rw [e]
    go_enter Tryz.func88, Tryz.ntmps88
    go_wp2_with fail
    go_ret
    exact ⟨rfl, rfl⟩
end Go.Proofs.YtanfnhgaooafeaaGreatDoor.Hed
/-! HedC -/
namespace Go.Proofs.YtanfnhgaooafeaaGreatDoor.Hed
open Go.ChangeShapes Go.WideShapes Go.ChangeAt Go.RowKit Go.Deep
open Go.Proofs.YtanfnhgaooafeaaGreatDoor.Byt Go.Proofs.YtanfnhgaooafeaaGreatDoor.Key
set_option linter.unusedVariables false
set_option linter.unusedSimpArgs false
theorem gd_flood {p : Pk} (h : flo p.kind = true) : gd p = (okHops p.hops && goodK p.key) := by unfold gd; rw [if_pos h]
theorem gd_one {p : Pk} (h : flo p.kind = false) : gd p = (decide (1 ≤ p.kind ∧ p.kind ≤ 2) && decide (p.hops = 0) && eqK p.key (0, 0, 0)) := by unfold gd; rw [if_neg (by rw [h]; decide)]
theorem zero_of {x : Int} {b : Bool} (h : decide (x = 0) = b) : (x == 0) = b := by rw [← h]; rfl
set_option maxRecDepth 100000 in
set_option maxHeartbeats 1000000 in
theorem good_any (p : Pk) (w : World) :
    Calls Tryz.prog 64 #[pval p] w fun e w' => e = .returned (.bool (gd p)) ∧ Below w.heap.size w w' := by
  have CF := Lib.hid (fun W => flood_any p.kind W)
  have CH := Lib.hid (fun W => ishops_any p.hops W)
  have CK := Lib.hid (fun W => Key.good_any p.key W)
  have CI := Lib.hid (fun W => iskind_any p.kind W)
  have HB : Hid (∀ o, Below w.heap.size w (w.alloc o)) := Lib.hid (fun o => (Below.refl _ _).alloc (Nat.le_refl _) o)
  obtain ⟨fl, hfl⟩ : ∃ fl, Hid (flo p.kind = fl) := ⟨_, Lib.hid rfl⟩
  cases fl with
  | true =>
    rw [gd_flood hfl.out]
    obtain ⟨oh, hoh⟩ : ∃ oh, Hid (okHops p.hops = oh) := ⟨_, Lib.hid rfl⟩
    rw [hfl.out] at CF
    rw [hoh.out] at CH ⊢
    clear hfl hoh CI
    generalize goodK p.key = gk at *
    obtain ⟨kind, ⟨t, f, s⟩, hops, no, to, index, total, stamp, value, ad, cap, body⟩ := p
    unfold pval Pk.cells
    unfold kval at CK
    simp only at CK CF CH ⊢
    cases oh with
    | true =>
      go_enter Tryz.func64, Tryz.ntmps64
      go_wp2_with fail
      refine (CF.out _).mono ?_; rintro e w' ⟨rfl, rfl⟩
      go_wp2_with fail
      refine (CH.out _).mono ?_; rintro e w' ⟨rfl, rfl⟩
      go_wp2_with fail
      refine (CK.out _).mono ?_; rintro e w' ⟨rfl, hB1⟩
      have HB1 := Lib.hid hB1
      clear hB1
      go_wp2_with fail
      go_ret
      exact ⟨rfl, (HB.out _).trans (HB1.out.mono (HB.out _).size)⟩
    | false =>
      go_enter Tryz.func64, Tryz.ntmps64
      go_wp2_with fail
      refine (CF.out _).mono ?_; rintro e w' ⟨rfl, rfl⟩
      go_wp2_with fail
      refine (CH.out _).mono ?_; rintro e w' ⟨rfl, rfl⟩
      go_wp2_with fail
      go_ret
      exact ⟨rfl, HB.out _⟩
  | false =>
    rw [gd_one hfl.out]
    have hlo : Hid (decide (1 ≤ p.kind ∧ p.kind ≤ 6) = decide (1 ≤ p.kind ∧ p.kind ≤ 2)) := Lib.hid (by
      have := of_decide_eq_false (show decide (3 ≤ p.kind ∧ p.kind ≤ 6) = false from hfl.out)
      congr 1; apply propext; omega)
    rw [hlo.out] at CI
    rw [hfl.out] at CF
    clear hfl hlo CH CK
    generalize decide (1 ≤ p.kind ∧ p.kind ≤ 2) = ik at *
    obtain ⟨zh, hzh⟩ : ∃ zh, Hid (decide (p.hops = 0) = zh) := ⟨_, Lib.hid rfl⟩
    have hz2 := zero_of hzh.out
    rw [hzh.out]
    clear hzh
    obtain ⟨kind, ⟨t, f, s⟩, hops, no, to, index, total, stamp, value, ad, cap, body⟩ := p
    unfold pval Pk.cells
    simp only at CF CI hz2 ⊢
    cases ik with
    | false =>
      go_enter Tryz.func64, Tryz.ntmps64
      go_wp2_with fail
      refine (CF.out _).mono ?_; rintro e w' ⟨rfl, rfl⟩
      go_wp2_with fail
      refine (CI.out _).mono ?_; rintro e w' ⟨rfl, rfl⟩
      go_wp2_with fail
      go_ret
      exact ⟨rfl, HB.out _⟩
    | true =>
      cases zh with
      | false =>
        go_enter Tryz.func64, Tryz.ntmps64
        go_wp2_with fail
        refine (CF.out _).mono ?_; rintro e w' ⟨rfl, rfl⟩
        go_wp2_with fail
        refine (CI.out _).mono ?_; rintro e w' ⟨rfl, rfl⟩
        go_wp2_with fail
        go_ret
        exact ⟨rfl, HB.out _⟩
      | true =>
        go_enter Tryz.func64, Tryz.ntmps64
        go_wp2_with fail
        refine (CF.out _).mono ?_; rintro e w' ⟨rfl, rfl⟩
        go_wp2_with fail
        refine (CI.out _).mono ?_; rintro e w' ⟨rfl, rfl⟩
        go_wp2_with fail
        go_ret
        exact ⟨by simp, HB.out _⟩
set_option maxRecDepth 100000 in
set_option maxHeartbeats 1000000 in
theorem rgood_any (p : Pk) (w : World) :
    Calls Tryz.prog 49 #[pval p] w fun e w' => e = .returned (.bool (gd p)) ∧ Below w.heap.size w w' := by
  have CF := Lib.hid (fun W => rflood_any p.kind W)
  have CK := Lib.hid (fun W => Key.rgood_any p.key W)
  have HB : Hid (∀ o, Below w.heap.size w (w.alloc o)) := Lib.hid (fun o => (Below.refl _ _).alloc (Nat.le_refl _) o)
  obtain ⟨fl, hfl⟩ : ∃ fl, Hid (flo p.kind = fl) := ⟨_, Lib.hid rfl⟩
  cases fl with
  | true =>
    rw [gd_flood hfl.out]
    rw [hfl.out] at CF
    clear hfl
    unfold okHops
    generalize goodK p.key = gk at *
    obtain ⟨kind, ⟨t, f, s⟩, hops, no, to, index, total, stamp, value, ad, cap, body⟩ := p
    unfold pval Pk.cells
    unfold kval at CK
    simp only at CK CF ⊢
    by_cases h1 : hops > 0
    · by_cases h2 : hops < 64
      · rw [show decide (1 ≤ hops ∧ hops ≤ 63) = true from decide_eq_true (by omega)]
        go_enter Tryz.func49, Tryz.ntmps49
        go_wp2_with fail
        refine (CF.out _).mono ?_; rintro e w' ⟨rfl, rfl⟩
        go_wp2_with fail
        refine (CK.out _).mono ?_; rintro e w' ⟨rfl, hB1⟩
        have HB1 := Lib.hid hB1
        clear hB1
        go_wp2_with fail
        go_ret
        exact ⟨rfl, (HB.out _).trans (HB1.out.mono (HB.out _).size)⟩
      · rw [show decide (1 ≤ hops ∧ hops ≤ 63) = false from decide_eq_false (by omega)]
        go_enter Tryz.func49, Tryz.ntmps49
        go_wp2_with fail
        refine (CF.out _).mono ?_; rintro e w' ⟨rfl, rfl⟩
        go_wp2_with fail
        go_ret
        exact ⟨rfl, HB.out _⟩
    · rw [show decide (1 ≤ hops ∧ hops ≤ 63) = false from decide_eq_false (by omega)]
      go_enter Tryz.func49, Tryz.ntmps49
      go_wp2_with fail
      refine (CF.out _).mono ?_; rintro e w' ⟨rfl, rfl⟩
      go_wp2_with fail
      go_ret
      exact ⟨rfl, HB.out _⟩
  | false =>
    rw [gd_one hfl.out]
    rw [hfl.out] at CF
    clear hfl CK
    obtain ⟨zh, hzh⟩ : ∃ zh, Hid (decide (p.hops = 0) = zh) := ⟨_, Lib.hid rfl⟩
    have hz2 := zero_of hzh.out
    rw [hzh.out]
    clear hzh
    obtain ⟨kind, ⟨t, f, s⟩, hops, no, to, index, total, stamp, value, ad, cap, body⟩ := p
    unfold pval Pk.cells
    simp only at CF hz2 ⊢
    by_cases h1 : kind > 0
    · by_cases h2 : kind < 3
      · rw [show decide (1 ≤ kind ∧ kind ≤ 2) = true from decide_eq_true (by omega)]
        cases zh with
        | false =>
          go_enter Tryz.func49, Tryz.ntmps49
          go_wp2_with fail
          refine (CF.out _).mono ?_; rintro e w' ⟨rfl, rfl⟩
          go_wp2_with fail
          go_ret
          exact ⟨rfl, HB.out _⟩
        | true =>
          go_enter Tryz.func49, Tryz.ntmps49
          go_wp2_with fail
          refine (CF.out _).mono ?_; rintro e w' ⟨rfl, rfl⟩
          go_wp2_with fail
          go_ret
          exact ⟨by simp, HB.out _⟩
      · rw [show decide (1 ≤ kind ∧ kind ≤ 2) = false from decide_eq_false (by omega)]
        go_enter Tryz.func49, Tryz.ntmps49
        go_wp2_with fail
        refine (CF.out _).mono ?_; rintro e w' ⟨rfl, rfl⟩
        go_wp2_with fail
        go_ret
        exact ⟨rfl, HB.out _⟩
    · rw [show decide (1 ≤ kind ∧ kind ≤ 2) = false from decide_eq_false (by omega)]
      go_enter Tryz.func49, Tryz.ntmps49
      go_wp2_with fail
      refine (CF.out _).mono ?_; rintro e w' ⟨rfl, rfl⟩
      go_wp2_with fail
      go_ret
      exact ⟨rfl, HB.out _⟩
end Go.Proofs.YtanfnhgaooafeaaGreatDoor.Hed
/-! HedD -/
namespace Go.Proofs.YtanfnhgaooafeaaGreatDoor.Hed
open Go.ChangeShapes Go.WideShapes Go.ChangeAt Go.RowKit Go.Deep
open Go.Proofs.YtanfnhgaooafeaaGreatDoor.Byt Go.Proofs.YtanfnhgaooafeaaGreatDoor.Key Go.Proofs.YtanfnhgaooafeaaGreatDoor.Buf Go.Proofs.YtanfnhgaooafeaaGreatDoor.BufM
set_option linter.unusedVariables false
set_option linter.unusedSimpArgs false
/-- The byte that a number becomes. -/
def kb (x : Int) : UInt8 := UInt8.ofNat (x % 256).toNat
/-- The number without sign that a number becomes. -/
def un (x : Int) : Nat := (x % 18446744073709551616).toNat
theorem un_lt (x : Int) : un x < 18446744073709551616 := by unfold un; omega
theorem kb_val (x : Int) : ((kb x).toNat : Int) = IntKind.u8.wrap x := by
  rw [IntKind.wrap_u8]
  unfold kb
  rw [toNat_of (by omega)]
  omega
theorem kb_bv (x : Int) : bv (kb x) = .int .u8 (IntKind.u8.wrap x) := by unfold bv; rw [kb_val]
theorem un_val (x : Int) : ((un x : Nat) : Int) = IntKind.u64.wrap x := by
  rw [IntKind.wrap_u64]
  unfold un
  omega
/-- What a writer holds when a head was written. -/
def putS (m : Nat) (s : Int × List UInt8) (p : Pk) : Int × List UInt8 :=
  if flo p.kind then wFix m (wByte m (wNum m (wByte m (wByte m s [kb p.kind]) [kb p.hops]) (un p.key.1)) [kb p.key.2.1]) (un p.key.2.2) 4 else wByte m s [kb p.kind]
/-- A writer beside a box that is the call's own. -/
structure PS (w : World) (B g m bp : Nat) (r0 : Option Nat) (t : TypeId) (cs : Array Value) (s : Int × List UInt8) (W : World) (row : Option Nat) : Prop where
  wr : WR W B g m s row
  box : Blk W bp t cs
  ne : bp ≠ g
  ner : some bp ≠ row
  step : WStep w W B g r0 row
theorem row_lt {w : World} {B g m : Nat} {s : Int × List UInt8} {row : Option Nat} (h : WR w B g m s row) {k : Nat} (hk : row = some k) : k < w.heap.size := by
  obtain ⟨v, hb, ho, hr⟩ := h.mem
  exact (own_at ho (hr.trans hk)).2
theorem PS.start {w : World} {B g m : Nat} {s : Int × List UInt8} {row : Option Nat} (h : WR w B g m s row) (t : TypeId) (cs : Array Value) :
    PS w B g m w.heap.size row t cs s (w.alloc (.cells cs t)) row := by
  have hB : Below w.heap.size w (w.alloc (.cells cs t)) := (Below.refl _ _).alloc (Nat.le_refl _) _
  obtain ⟨v, hb, -⟩ := h.mem
  have hg := hb.lt
  exact ⟨h.kept hB, Blk.new _ _ _, by omega, fun e => by have := row_lt h e.symm; omega, WStep.ahead hB (WStep.refl _ _ _ _) h.le⟩
theorem PS.next {w : World} {B g m bp : Nat} {r0 : Option Nat} {t : TypeId} {cs : Array Value} {s s' : Int × List UInt8} {W V : World} {row : Option Nat} (h : PS w B g m bp r0 t cs s W row) (hB : Below W.heap.size W V) {e : Ending} {w' : World} (hp : WPost V B g m row s' e w') :
    e = .returned (.tuple #[]) ∧ ∃ row', Hid (PS w B g m bp r0 t cs s' w' row') := by
  obtain ⟨rfl, row', h1, h2⟩ := hp
  have hs := hB.size
  have hl := h.box.lt
  refine ⟨rfl, row', Lib.hid ⟨h1, ?_, h.ne, ?_, h.step.trans (h2.ahead hB h.wr.le)⟩⟩
  · exact (h2.block bp (by omega) h.ne h.ner).trans (h.box.below hB)
  · rcases h2.new with e | e
    · rw [e]; exact h.ner
    · intro e2; have := e bp e2.symm; omega
theorem PS.kept {w : World} {B g m bp : Nat} {r0 : Option Nat} {t : TypeId} {cs : Array Value} {s : Int × List UInt8} {W V : World} {row : Option Nat} (h : PS w B g m bp r0 t cs s W row) (hB : Below W.heap.size W V) : PS w B g m bp r0 t cs s V row :=
  ⟨h.wr.kept hB, h.box.below hB, h.ne, h.ner, h.step.trans ((WStep.refl _ _ _ _).ahead hB h.wr.le)⟩
/-- Byte(byte(x)). -/
theorem PS.byte {w : World} {B g m bp : Nat} {r0 : Option Nat} {t : TypeId} {cs : Array Value} {s : Int × List UInt8} {W : World} {row : Option Nat} (h : PS w B g m bp r0 t cs s W row) (hm : s.2.length ≤ 900000) (x : Int) :
    Calls Tryz.prog 43 #[.pointer (some ⟨g, 0, none⟩), .slice (some ⟨W.heap.size, 0, none⟩) 1 1] (W.alloc (.cells #[.int .u8 (IntKind.u8.wrap x)] 5)) fun e w' => e = .returned (.tuple #[]) ∧ ∃ row', Hid (PS w B g m bp r0 t cs (wByte m s [kb x]) w' row') := by
  have hB : Below W.heap.size W (W.alloc (.cells #[.int .u8 (IntKind.u8.wrap x)] 5)) := (Below.refl _ _).alloc (Nat.le_refl _) _
  have ho := own_one W (kb x)
  rw [kb_bv] at ho
  exact (byte_any g B m s row (some ⟨W.heap.size, 0, none⟩) 1 1 [kb x] _ (h.wr.kept hB) rfl (by omega) ho.rd.1 (fun e => by cases e)).mono fun e w' hh => h.next hB hh
theorem PS.num {w : World} {B g m bp : Nat} {r0 : Option Nat} {t : TypeId} {cs : Array Value} {s : Int × List UInt8} {W : World} {row : Option Nat} (h : PS w B g m bp r0 t cs s W row) (hm : s.2.length ≤ 900000) (x : Int) :
    Calls Tryz.prog 45 #[.pointer (some ⟨g, 0, none⟩), .int .u64 (IntKind.u64.wrap x)] W fun e w' => e = .returned (.tuple #[]) ∧ ∃ row', Hid (PS w B g m bp r0 t cs (wNum m s (un x)) w' row') := by
  rw [← un_val]
  exact (num_any g B m s row (un x) _ h.wr (un_lt x) hm).mono fun e w' hh => h.next (Below.refl _ _) hh
theorem PS.fix {w : World} {B g m bp : Nat} {r0 : Option Nat} {t : TypeId} {cs : Array Value} {s : Int × List UInt8} {W : World} {row : Option Nat} (h : PS w B g m bp r0 t cs s W row) (hm : s.2.length ≤ 900000) (x : Int) (n : Int) :
    Calls Tryz.prog 46 #[.pointer (some ⟨g, 0, none⟩), .int .u64 (IntKind.u64.wrap x), .int .i64 n] W fun e w' => e = .returned (.tuple #[]) ∧ ∃ row', Hid (PS w B g m bp r0 t cs (wFix m s (un x) n) w' row') := by
  rw [← un_val]
  exact (fixed_any g B m s row (un x) n _ h.wr (un_lt x) hm).mono fun e w' hh => h.next (Below.refl _ _) hh
theorem PS.cells {w : World} {B g m bp : Nat} {r0 : Option Nat} {t : TypeId} {cs : Array Value} {s : Int × List UInt8} {W : World} {row : Option Nat} (h : PS w B g m bp r0 t cs s W row) (i : Nat) : W.cell? ⟨bp, i, none⟩ = cs[i]? := h.box.cell i
theorem PS.post {w : World} {B g m bp : Nat} {r0 : Option Nat} {t : TypeId} {cs : Array Value} {s : Int × List UInt8} {W : World} {row : Option Nat} (h : PS w B g m bp r0 t cs s W row) : WPost w B g m r0 s (.returned (.tuple #[])) W := ⟨rfl, row, h.wr, h.step⟩
theorem sev_len10 (x : Nat) (h : x < 18446744073709551616) : (sev x).length ≤ 10 := by
  have := BufM.sev_len 9 x (by omega)
  omega
set_option maxRecDepth 100000 in
set_option maxHeartbeats 2000000 in
theorem hput_any (p : Pk) (g B m : Nat) (s : Int × List UInt8) (row : Option Nat) (w : World) (h : WR w B g m s row) (hm : s.2.length ≤ 800000) :
    Calls Tryz.prog 15 #[.pointer (some ⟨g, 0, none⟩), pval p] w (WPost w B g m row (putS m s p)) := by
  have CF := Lib.hid (fun W => flood_any p.kind W)
  have H0 := Lib.hid (PS.start h 27 p.cells)
  generalize hbp : w.heap.size = bp at *
  have CB : Hid (∀ W row' s' x, PS w B g m bp row 27 p.cells s' W row' → s'.2.length ≤ 900000 → Calls Tryz.prog 43 #[.pointer (some ⟨g, 0, none⟩), .slice (some ⟨W.heap.size, 0, none⟩) 1 1] (W.alloc (.cells #[.int .u8 (IntKind.u8.wrap x)] 5)) fun e w' => e = .returned (.tuple #[]) ∧ ∃ row2, Hid (PS w B g m bp row 27 p.cells (wByte m s' [kb x]) w' row2)) := Lib.hid (fun W row' s' x h hm => h.byte hm x)
  have l1 : (wByte m s [kb p.kind]).2.length ≤ 800001 := by have := wByte_len (m := m) (s := s) [kb p.kind]; simp only [List.length_singleton] at this; omega
  have e2 : Hid (flo p.kind = false → putS m s p = wByte m s [kb p.kind]) := Lib.hid (fun hf => by unfold putS; rw [if_neg (by rw [hf]; decide)])
  have e1 : Hid (flo p.kind = true → putS m s p = wFix m (wByte m (wNum m (wByte m (wByte m s [kb p.kind]) [kb p.hops]) (un p.key.1)) [kb p.key.2.1]) (un p.key.2.2) 4) := Lib.hid (fun hf => by unfold putS; rw [if_pos hf])
  generalize putS m s p = fin at *
  obtain ⟨fl, hfl⟩ : ∃ fl, Hid (flo p.kind = fl) := ⟨_, Lib.hid rfl⟩
  rw [hfl.out] at CF e1 e2
  obtain ⟨s1, hs1⟩ : ∃ s1, Hid (wByte m s [kb p.kind] = s1) := ⟨_, Lib.hid rfl⟩
  have C1 := Lib.hid (CB.out _ _ _ p.kind H0.out (by omega))
  rw [hs1.out] at l1 C1 e1 e2
  have l2 : (wByte m s1 [kb p.hops]).2.length ≤ 800002 := by have := wByte_len (m := m) (s := s1) [kb p.hops]; simp only [List.length_singleton] at this; omega
  have C2 : Hid (∀ W row', PS w B g m bp row 27 p.cells s1 W row' → Calls Tryz.prog 43 #[.pointer (some ⟨g, 0, none⟩), .slice (some ⟨W.heap.size, 0, none⟩) 1 1] (W.alloc (.cells #[.int .u8 (IntKind.u8.wrap p.hops)] 5)) fun e w' => e = .returned (.tuple #[]) ∧ ∃ row2, Hid (PS w B g m bp row 27 p.cells (wByte m s1 [kb p.hops]) w' row2)) := Lib.hid (fun W row' h => h.byte (by omega) _)
  generalize wByte m s1 [kb p.hops] = s2 at *
  have l3 : (wNum m s2 (un p.key.1)).2.length ≤ 800012 := by
    unfold wNum
    have := wByte_len (m := m) (s := s2) (sev (un p.key.1))
    have := sev_len10 (un p.key.1) (un_lt _)
    omega
  have C3 : Hid (∀ W row', PS w B g m bp row 27 p.cells s2 W row' → Calls Tryz.prog 45 #[.pointer (some ⟨g, 0, none⟩), .int .u64 (IntKind.u64.wrap p.key.1)] W fun e w' => e = .returned (.tuple #[]) ∧ ∃ row2, Hid (PS w B g m bp row 27 p.cells (wNum m s2 (un p.key.1)) w' row2)) := Lib.hid (fun W row' h => h.num (by omega) _)
  generalize wNum m s2 (un p.key.1) = s3 at *
  have l4 : (wByte m s3 [kb p.key.2.1]).2.length ≤ 800013 := by have := wByte_len (m := m) (s := s3) [kb p.key.2.1]; simp only [List.length_singleton] at this; omega
  have C4 : Hid (∀ W row', PS w B g m bp row 27 p.cells s3 W row' → Calls Tryz.prog 43 #[.pointer (some ⟨g, 0, none⟩), .slice (some ⟨W.heap.size, 0, none⟩) 1 1] (W.alloc (.cells #[.int .u8 (IntKind.u8.wrap p.key.2.1)] 5)) fun e w' => e = .returned (.tuple #[]) ∧ ∃ row2, Hid (PS w B g m bp row 27 p.cells (wByte m s3 [kb p.key.2.1]) w' row2)) := Lib.hid (fun W row' h => h.byte (by omega) _)
  generalize wByte m s3 [kb p.key.2.1] = s4 at *
  have C5 : Hid (∀ W row', PS w B g m bp row 27 p.cells s4 W row' → Calls Tryz.prog 46 #[.pointer (some ⟨g, 0, none⟩), .int .u64 (IntKind.u64.wrap p.key.2.2), .int .i64 4] W fun e w' => e = .returned (.tuple #[]) ∧ ∃ row2, Hid (PS w B g m bp row 27 p.cells (wFix m s4 (un p.key.2.2) 4) w' row2)) := Lib.hid (fun W row' h => h.fix (by omega) _ _)
  generalize wFix m s4 (un p.key.2.2) 4 = s5 at *
  have HE : Hid (∀ s' W row', PS w B g m bp row 27 p.cells s' W row' → WPost w B g m row s' (.returned (.tuple #[])) W) := Lib.hid (fun s' W row' h => h.post)
  have HC : Hid (∀ s' W row', PS w B g m bp row 27 p.cells s' W row' → W.cell? ⟨bp, 0, none⟩ = some (.int .i64 p.kind) ∧ W.cell? ⟨bp, 1, none⟩ = some (.int .i64 p.key.1) ∧ W.cell? ⟨bp, 2, none⟩ = some (.int .i64 p.key.2.1) ∧ W.cell? ⟨bp, 3, none⟩ = some (.int .u32 p.key.2.2) ∧ W.cell? ⟨bp, 4, none⟩ = some (.int .i64 p.hops)) := Lib.hid (fun s' W row' h => ⟨h.cells 0, h.cells 1, h.cells 2, h.cells 3, h.cells 4⟩)
  obtain ⟨W0, hW0⟩ : ∃ W0, Hid (w.alloc (.cells p.cells 27) = W0) := ⟨_, Lib.hid rfl⟩
  rw [hW0.out] at H0 C1
  obtain ⟨kind, ⟨t, f, q⟩, hops, no, to, index, total, stamp, value, ad, cap, body⟩ := p
  simp only at CF C1 C2 C3 C4 C5 HC
  unfold pval
  unfold Pk.cells at hW0 ⊢
  simp only at hW0 ⊢
  clear h CB hs1 l1 l2 l3 l4 hfl
  go_enter Tryz.func15, Tryz.ntmps15
  go_upto_region 1 with fail
  rw [hW0.out]
  try rw [hbp]
  obtain ⟨c0, c1, c2, c3, c4⟩ := HC.out _ _ _ H0.out
  go_wp2_with fail
  refine (C1.out).mono ?_; rintro e w1 ⟨rfl, row1, H1⟩
  clear c0 c1 c2 c3 c4 C1
  obtain ⟨c0, c1, c2, c3, c4⟩ := HC.out _ _ _ H1.out
  go_wp2_with fail
  refine (CF.out _).mono ?_; rintro e w' ⟨rfl, rfl⟩
  cases fl with
  | false =>
    go_wp2_with fail
    go_returns
    rw [e2.out (by simp)]
    exact HE.out _ _ _ H1.out
  | true =>
    go_wp2_with fail
    refine (C2.out _ _ H1.out).mono ?_; rintro e w2 ⟨rfl, row2, H2⟩
    clear c0 c1 c2 c3 c4 C2
    obtain ⟨c0, c1, c2, c3, c4⟩ := HC.out _ _ _ H2.out
    go_wp2_with fail
    refine (C3.out _ _ H2.out).mono ?_; rintro e w3 ⟨rfl, row3, H3⟩
    clear c0 c1 c2 c3 c4 C3
    obtain ⟨c0, c1, c2, c3, c4⟩ := HC.out _ _ _ H3.out
    go_wp2_with fail
    refine (C4.out _ _ H3.out).mono ?_; rintro e w4 ⟨rfl, row4, H4⟩
    clear c0 c1 c2 c3 c4 C4
    obtain ⟨c0, c1, c2, c3, c4⟩ := HC.out _ _ _ H4.out
    go_wp2_with fail
    refine (C5.out _ _ H4.out).mono ?_; rintro e w5 ⟨rfl, row5, H5⟩
    go_wp2_with fail
    go_returns
    rw [e1.out (by simp)]
    exact HE.out _ _ _ H5.out
end Go.Proofs.YtanfnhgaooafeaaGreatDoor.Hed
/-! HedE -/
namespace Go.Proofs.YtanfnhgaooafeaaGreatDoor.Hed
open Go.ChangeShapes Go.WideShapes Go.ChangeAt Go.RowKit Go.Deep
open Go.Proofs.YtanfnhgaooafeaaGreatDoor.Byt Go.Proofs.YtanfnhgaooafeaaGreatDoor.Key Go.Proofs.YtanfnhgaooafeaaGreatDoor.Buf Go.Proofs.YtanfnhgaooafeaaGreatDoor.BufM
set_option linter.unusedVariables false
set_option linter.unusedSimpArgs false
/-- The chapter's packet. -/
def ex : Pk := ⟨3, (300, 2, 7), 1, 0, 0, 0, 0, 0, 0, none, 0, []⟩
theorem ex_put : putS (20 : Int).toNat (0, []) ex = (0, [3, 1, 172, 2, 2, 7, 0, 0, 0]) := by
  have h300 : sev (un 300) = [172, 2] := by rw [show un 300 = 300 from rfl, sev_big (by omega), sev_small (by omega)]; rfl
  have e1 : wByte (20 : Int).toNat (0, []) [kb 3] = (0, [3]) := by decide
  have e2 : wByte (20 : Int).toNat (0, [3]) [kb 1] = (0, [3, 1]) := by decide
  have e3 : wNum (20 : Int).toNat (0, [3, 1]) (un 300) = (0, [3, 1, 172, 2]) := by unfold wNum; rw [h300]; decide
  have e4 : wByte (20 : Int).toNat (0, [3, 1, 172, 2]) [kb 2] = (0, [3, 1, 172, 2, 2]) := by decide
  have e5 : wFix (20 : Int).toNat (0, [3, 1, 172, 2, 2]) (un 7) 4 = (0, [3, 1, 172, 2, 2, 7, 0, 0, 0]) := by decide
  unfold putS ex
  rw [if_pos (by decide)]
  simp only
  rw [e1, e2, e3, e4, e5]
theorem ex_good : gd ex = true := by decide
end Go.Proofs.YtanfnhgaooafeaaGreatDoor.Hed
namespace Go.Proofs.YtanfnhgaooafeaaGreatDoor.Hed
open Go.ChangeShapes Go.WideShapes Go.ChangeAt Go.RowKit Go.Deep
open Go.Proofs.YtanfnhgaooafeaaGreatDoor.Byt Go.Proofs.YtanfnhgaooafeaaGreatDoor.Key Go.Proofs.YtanfnhgaooafeaaGreatDoor.Buf
/-- A box that the call laid. -/
theorem one_box (w w0 : World) (t : TypeId) (cs : Array Value) (h : w0 = w.alloc (.cells cs t)) : Below w.heap.size w w0 ∧ Blk w0 w.heap.size t cs := by
  subst h
  exact ⟨(Below.refl _ _).alloc (Nat.le_refl _) _, Blk.new _ _ _⟩
/-- A packet's cells. -/
theorem blk_cells {W : World} {b : Nat} {t : TypeId} {p : Pk} (h : Blk W b t p.cells) : W.cell? ⟨b, 0, none⟩ = some (.int .i64 p.kind) ∧ W.cell? ⟨b, 1, none⟩ = some (.int .i64 p.key.1) ∧ W.cell? ⟨b, 2, none⟩ = some (.int .i64 p.key.2.1) ∧ W.cell? ⟨b, 3, none⟩ = some (.int .u32 p.key.2.2) ∧ W.cell? ⟨b, 4, none⟩ = some (.int .i64 p.hops) ∧
    W.cell? ⟨b, 5, none⟩ = some (.int .i64 p.no) ∧ W.cell? ⟨b, 6, none⟩ = some (.int .i64 p.to) ∧ W.cell? ⟨b, 7, none⟩ = some (.int .i64 p.index) ∧ W.cell? ⟨b, 8, none⟩ = some (.int .i64 p.total) ∧ W.cell? ⟨b, 9, none⟩ = some (.int .i64 p.stamp) ∧ W.cell? ⟨b, 10, none⟩ = some (.int .i64 p.value) ∧ W.cell? ⟨b, 11, none⟩ = some (.slice p.ad p.body.length p.cap) :=
  ⟨h.cell 0, h.cell 1, h.cell 2, h.cell 3, h.cell 4, h.cell 5, h.cell 6, h.cell 7, h.cell 8, h.cell 9, h.cell 10, h.cell 11⟩
theorem pk_cells (w w0 : World) (p : Pk) (h : w0 = w.alloc (.cells p.cells 27)) (W : World) (hW : Below w0.heap.size w0 W) : W.cell? ⟨w.heap.size, 0, none⟩ = some (.int .i64 p.kind) ∧ W.cell? ⟨w.heap.size, 1, none⟩ = some (.int .i64 p.key.1) ∧ W.cell? ⟨w.heap.size, 2, none⟩ = some (.int .i64 p.key.2.1) ∧ W.cell? ⟨w.heap.size, 3, none⟩ = some (.int .u32 p.key.2.2) ∧ W.cell? ⟨w.heap.size, 4, none⟩ = some (.int .i64 p.hops) ∧
    W.cell? ⟨w.heap.size, 5, none⟩ = some (.int .i64 p.no) ∧ W.cell? ⟨w.heap.size, 6, none⟩ = some (.int .i64 p.to) ∧ W.cell? ⟨w.heap.size, 7, none⟩ = some (.int .i64 p.index) ∧ W.cell? ⟨w.heap.size, 8, none⟩ = some (.int .i64 p.total) ∧ W.cell? ⟨w.heap.size, 9, none⟩ = some (.int .i64 p.stamp) ∧ W.cell? ⟨w.heap.size, 10, none⟩ = some (.int .i64 p.value) ∧ W.cell? ⟨w.heap.size, 11, none⟩ = some (.slice p.ad p.body.length p.cap) :=
  blk_cells ((one_box w w0 _ _ h).2.below hW)
end Go.Proofs.YtanfnhgaooafeaaGreatDoor.Hed
/-! HedG -/
namespace Go.Proofs.YtanfnhgaooafeaaGreatDoor.Hed
open Go.ChangeShapes Go.WideShapes Go.ChangeAt Go.RowKit Go.Deep
open Go.Proofs.YtanfnhgaooafeaaGreatDoor.Byt Go.Proofs.YtanfnhgaooafeaaGreatDoor.Key Go.Proofs.YtanfnhgaooafeaaGreatDoor.Buf
set_option linter.unusedVariables false
set_option linter.unusedSimpArgs false
set_option maxRecDepth 100000 in
/-- Clone: the same bytes elsewhere; nil of nil. -/
theorem clone_any (ad : Option Addr) (len cap : Nat) (l : List UInt8) (w : World) (hlen : l.length = len) (hle : len ≤ cap) (hm : cap ≤ 140737488355328) (hr : RdB w ad l) (hn : ad = none → cap = 0) :
    Calls Tryz.prog 70 #[.slice ad len cap] w fun e w' => ∃ ad' cap', e = .returned (.slice ad' len cap') ∧ RdB w' ad' l ∧ Below w.heap.size w w' := by
  cases ad with
  | none =>
    obtain rfl : cap = 0 := hn rfl
    obtain rfl : len = 0 := by omega
    obtain rfl : l = [] := List.eq_nil_of_length_eq_zero hlen
    clear hr hn hlen
    have hq : (binOp .eql 25 (.slice none 0 0) (.slice none 0 0)).run Tryz.prog w = .ok (.bool true) w := Lib.run_eql_slice_nil w _ _ none 0 0 0 0 Tryz.underlying25
    go_enter Tryz.func70, Tryz.ntmps70
    go_wp2_with fail
    go_ret
    exact ⟨none, 0, rfl, .inl rfl, Below.refl _ _⟩
  | some a =>
    obtain ⟨i0, hi, hz0, hz1, hz2⟩ := info_parts infoByte
    have c0 := Buf.own_zero w
    unfold OwnB at c0
    have hB0 : Below w.heap.size w (w.alloc (.cells #[] 5)) := (Below.refl _ _).alloc (Nat.le_refl _) _
    have c2 := Lib.hid (RdB.cells (hr.below hB0))
    have c3 := Lib.hid hlen
    have HQ : Hid (∀ w1 v m, w1.ownsRow w.heap.size 5 1 v m (bvs [] ++ bvs l) → m = l.length → (w.alloc (.cells #[] 5)).grownBy w1 (some w.heap.size) → ∃ ad' cap', v = .slice ad' len cap' ∧ RdB w1 ad' l ∧ Below w.heap.size w w1) := Lib.hid (fun w1 v m h hm hg => by
      subst hm
      have ho : OwnB w1 w.heap.size v l := h
      obtain ⟨ad', cap', e, _⟩ := Own.shape ho
      subst e
      exact ⟨ad', cap', by rw [hlen], ho.rd.1, hB0.grown hg (by simp) (fun k e => by cases e; exact Nat.le_refl _)⟩)
    clear hlen hr hn
    have hq : (binOp .eql 25 (.slice (some a) len cap) (.slice none 0 0)).run Tryz.prog w = .ok (.bool false) w := Lib.run_eql_slice_nil w _ _ (some a) len cap 0 0 Tryz.underlying25
    go_enter Tryz.func70, Tryz.ntmps70
    go_wp2_with (at_builtin; refine Own.wpList_append2_any _ rfl _ _ 25 rfl w.heap.size 5 i0 (.int .u8 0) 1 1 Tryz.underlying25 hi hz0 hz1 hz2 rfl (by decide) (.slice (some ⟨w.heap.size, 0, none⟩) 0 0) 0 _ rfl c0 (some a) len cap (bvs l) rfl (by rw [bvs_len, Nat.mul_one, c3.out]) (fun h => by cases h) c2.out (bvs_oneCell _) (by unfold maxLen; omega) (by omega) (by simp) ?_; intro v' w1 hown hgrow _)
    obtain ⟨ad', cap', rfl, h1, h2⟩ := HQ.out w1 v' _ hown (by rw [c3.out]; simp) hgrow
    clear hown hgrow c0 c2 HQ
    go_wp2_with fail
    go_ret
    exact ⟨_, _, rfl, h1, h2⟩
theorem equal_any (a b : Option Addr) (c1 c2 : Nat) (l m : List UInt8) (w : World) (h1 : RdB w a l) (h2 : RdB w b m) :
    Calls Tryz.prog 92 #[.slice a l.length c1, .slice b m.length c2] w fun e w' => e = .returned (.bool (strB l == strB m)) ∧ w = w' := by
  have S1 := run_str_any (cap := c1) h1 rfl
  have S2 := run_str_any (cap := c2) h2 rfl
  clear h1 h2
  generalize strB l = sl at *
  generalize strB m = sm at *
  go_enter Tryz.func92, Tryz.ntmps92
  go_wp2_with fail
  go_ret
  exact ⟨by rw [beq_toListBytes]; rfl, rfl⟩
/-- A packet without its body. -/
def fval (p : Pk) : Value := .agg #[.int .i64 p.kind, .int .i64 p.hops, .int .i64 p.key.1, .int .i64 p.key.2.1, .int .u32 p.key.2.2, .int .i64 p.no, .int .i64 p.stamp, .int .i64 p.value, .int .i64 p.to, .int .i64 p.index, .int .i64 p.total]
theorem flatten_any (p : Pk) (w : World) :
    Calls Tryz.prog 91 #[pval p] w fun e w' => e = .returned (fval p) ∧ Below w.heap.size w w' := by
  have HB : Hid (∀ o o', Below w.heap.size w ((w.alloc o).alloc o')) := Lib.hid (fun o o' => ((Below.refl _ _).alloc (Nat.le_refl _) o).alloc (by simp) o')
  obtain ⟨kind, ⟨t, f, s⟩, hops, no, to, index, total, stamp, value, ad, cap, body⟩ := p
  unfold pval Pk.cells fval
  go_enter Tryz.func91, Tryz.ntmps91
  go_wp2_with fail
  go_returns
  exact ⟨rfl, HB.out _ _⟩
end Go.Proofs.YtanfnhgaooafeaaGreatDoor.Hed
/-! HedI -/
namespace Go.Proofs.YtanfnhgaooafeaaGreatDoor.Hed
open Go.ChangeShapes Go.WideShapes Go.ChangeAt Go.RowKit Go.Deep
open Go.Proofs.YtanfnhgaooafeaaGreatDoor.Byt Go.Proofs.YtanfnhgaooafeaaGreatDoor.Key Go.Proofs.YtanfnhgaooafeaaGreatDoor.Buf
set_option linter.unusedVariables false
set_option linter.unusedSimpArgs false
/-- No packet. -/
def zero : Pk := ⟨0, (0, 0, 0), 0, 0, 0, 0, 0, 0, 0, none, 0, []⟩
/-- May the packet go on? -/
def nextB (p : Pk) : Bool := flo p.kind && decide (1 ≤ p.hops ∧ p.hops ≤ 62)
theorem infoPk : (Tryz.prog.info? 27).map (·.size) = some 12 := by kernel_rfl
theorem boxes_two (w w0 : World) (c d : Array Value) (t : TypeId) (h : w0 = (w.alloc (.cells c t)).alloc (.cells d t)) :
    Below w.heap.size w w0 ∧ Blk w0 w.heap.size t c ∧ Blk w0 (w.heap.size + 1) t d := by
  subst h
  refine ⟨((Below.refl _ _).alloc (Nat.le_refl _) _).alloc (by simp) _, (Blk.new w _ _).alloc _, ?_⟩
  have := Blk.new (w.alloc (.cells c t)) t d
  rw [World.size_alloc] at this
  exact this
theorem Blk.row {w : World} {g : Nat} {t : TypeId} {old : Array Value} (h : Blk w g t old) (cs : Array Value) (hs : old.size = cs.size) : Blk (w.setRow g cs) g t cs := setRow_heap _ _ _ _ _ _ h
/-- The result out of a packet's cell, and a second one. -/
theorem results_pk {fn : Func} (h : fn.results = #[.cell 2 27, .tmp 3]) (tmps : Array Value) (w : World) (g : Nat) (cs : Array Value) (v : Value)
    (hp : tmps.getD 2 undef = .pointer (some ⟨g, 0, none⟩)) (h3 : tmps.getD 3 undef = v) (hg : Blk w g 27 cs) (hs : cs.size = 12) :
    (results fn tmps).run Tryz.prog w = .ok (.tuple #[.agg cs, v]) w := by
  have hp' : tmps[2]?.getD undef = .pointer (some ⟨g, 0, none⟩) := by simpa using hp
  have h3' : tmps[3]?.getD undef = v := by simpa using h3
  simp [results, h, hp', h3', asAddr, run_loadVar_row w g 27 _ cs (0, 0) _ hg Tryz.underlying27 rfl (by rw [hs]; exact infoPk)]
theorem pk_no8 (p : Pk) (o : Nat) (x : Int) : p.cells[o]? ≠ some (.int .u8 x) := by
  unfold Pk.cells
  intro h
  match o, h with
  | 0, h => simp at h
  | 1, h => simp at h
  | 2, h => simp at h
  | 3, h => simp at h
  | 4, h => simp at h
  | 5, h => simp at h
  | 6, h => simp at h
  | 7, h => simp at h
  | 8, h => simp at h
  | 9, h => simp at h
  | 10, h => simp at h
  | 11, h => simp at h
  | n + 12, h => simp at h
/-- Bytes stay where a packet's block is written. -/
theorem rd_other {w w' : World} {g : Nat} {ad : Option Addr} {l : List UInt8} (p : Pk) (h : RdB w ad l) (hg : Blk w g 27 p.cells) (hk : ∀ b, b ≠ g → w'.heap[b]? = w.heap[b]?) : RdB w' ad l := by
  refine rd_kept h fun hne b o e _ => hk b ?_
  rintro rfl
  rcases h with h0 | ⟨b', off, e', hc⟩
  · exact hne h0
  · have e2 : some (⟨b, o, none⟩ : Addr) = some ⟨b', off, none⟩ := e.symm.trans e'
    cases e2
    have := hc 0 (List.length_pos_iff.2 hne)
    rw [hg.cell] at this
    exact pk_no8 p _ _ this
end Go.Proofs.YtanfnhgaooafeaaGreatDoor.Hed
/-! HedJ -/
namespace Go.Proofs.YtanfnhgaooafeaaGreatDoor.Hed
open Go.ChangeShapes Go.WideShapes Go.ChangeAt Go.RowKit Go.Deep
open Go.Proofs.YtanfnhgaooafeaaGreatDoor.Byt Go.Proofs.YtanfnhgaooafeaaGreatDoor.Key
set_option linter.unusedVariables false
set_option linter.unusedSimpArgs false
section
variable {H : Type} {enc0 : TypeId × Value → H} {w : World}
theorem sized_at {P : Program} {ts : List TypeId} {ds : List (DataW H)} (h : (DataW.weightsEach P ts ds).all (· ≤ reachBytes) = true) {j : Nat} {t : TypeId} {d : DataW H} (ht : ts[j]? = some t) (hd : ds[j]? = some d) : (d.weights P t).all (· ≤ reachBytes) = true :=
  List.all_eq_true.2 fun x hx => List.all_eq_true.1 h _ (DataW.weights_mem_each ht hd x hx)
theorem bytes1 : Tryz.prog.bytesOf 5 = 1 := by kernel_rfl
set_option maxRecDepth 100000 in
theorem cap_sized {p : Pk} {d : DataW H} {pl : List MemPlace} (h : DataW.Trod enc0 Tryz.prog w 0 (fun _ => true) true 27 (pval p) d pl) (hs : (d.weights Tryz.prog 27).all (· ≤ reachBytes) = true) : p.cap ≤ 140737488351232 := by
  obtain ⟨n, hn⟩ := h
  obtain ⟨ys, n', _, hx, hlen, hys, hf⟩ := DataW.trod_struct Tryz.underlying27 hn
  match ys, hys with
  | [y0, y1, y2, y3, y4, y5, y6, y7, y8, y9], _ =>
    have h9 : DataW.trod enc0 Tryz.prog w 0 (fun _ => true) true n' 25 (([.int .i64 p.kind, .int .i64 p.key.1, .int .i64 p.key.2.1, .int .u32 p.key.2.2, .int .i64 p.hops, .int .i64 p.no, .int .i64 p.to, .int .i64 p.index, .int .i64 p.total, .int .i64 p.stamp, .int .i64 p.value, .slice p.ad p.body.length p.cap].drop 11).take (Tryz.prog.cellsOf 25)) = some y9 := hf 9 _ rfl
    rw [show Tryz.prog.cellsOf 25 = 1 from by kernel_rfl] at h9
    simp only [List.drop_succ_cons, List.drop_zero, List.take_succ_cons, List.take_zero] at h9
    rcases open_ints Tryz.underlying25 Tryz.underlying5 (by kernel_rfl) h9 with ⟨hcs, _⟩ | ⟨a, l, c, zs, hcs, _, hl, hm, hz, hy, _⟩
    · simp at hcs
      omega
    · simp only [List.cons.injEq, Value.slice.injEq, and_true] at hcs
      obtain ⟨_, rfl, rfl⟩ := hcs
      simp only [if_true] at hz
      simp only [Prod.mk.injEq] at hx
      rw [hx.1] at hs
      have hs' := List.all_eq_true.1 hs p.cap (by
        simp only [List.map_cons, List.map_nil, DataW.weights, Tryz.underlying27, DataW.weightsEach, hy, Tryz.underlying25, bytes1]
        simp [lits, hz]
        omega)
      simp only [reachBytes, decide_eq_true_eq] at hs'
      exact of_decide_eq_true hs'
end
end Go.Proofs.YtanfnhgaooafeaaGreatDoor.Hed
/-! HedO -/
namespace Go.Proofs.YtanfnhgaooafeaaGreatDoor.Hed
open Go.ChangeShapes Go.WideShapes Go.ChangeAt Go.RowKit Go.Deep
open Go.Proofs.YtanfnhgaooafeaaGreatDoor.Byt Go.Proofs.YtanfnhgaooafeaaGreatDoor.Key Go.Proofs.YtanfnhgaooafeaaGreatDoor.Buf Go.Proofs.YtanfnhgaooafeaaGreatDoor.BufM
set_option linter.unusedVariables false
set_option linter.unusedSimpArgs false
/-- append(s, x...) of bytes. -/
theorem app_step {W : World} {ops : Array Oper} {rest : List Oper} {o : Oper} {a : Act} {Q : Exit → Act → World → Prop} (hgd : o.guard = none) (s x : Operand)
    (ho : o.op = .call { callee := .builtin .append, args := #[s, x], argTypes := #[25, 25] })
    (B : Nat) (ad1 : Option Addr) (n1 cap1 : Nat) (l : List UInt8) (hs : a.eval s = .slice ad1 n1 cap1) (hown : OwnB W B (.slice ad1 n1 cap1) l)
    (ad2 : Option Addr) (n2 cap2 : Nat) (m : List UInt8) (hx : a.eval x = .slice ad2 n2 cap2) (hn2 : n2 = m.length) (hrd : RdB W ad2 m) (hnil : ad2 = none → cap2 = 0) (hlen : l.length + m.length ≤ 1000000) (hB : B ≤ W.heap.size)
    (h : ∀ l' ad' cap' w1, Hid (l' = l ++ m) → OwnB w1 B (.slice ad' l'.length cap') l' → Below B W w1 → (∀ k, k < W.heap.size → B ≤ k → some k ≠ (Value.slice ad1 n1 cap1).ownBlock → w1.heap[k]? = W.heap[k]?) → wpList Tryz.prog ops Q rest (a.put o.dst (.slice ad' l'.length cap')) w1) :
    wpList Tryz.prog ops Q (o :: rest) a W := by
  obtain ⟨i0, hi, hz0, hz1, hz2⟩ := info_parts infoByte
  obtain rfl : n1 = l.length := hown.rd.2
  have hown' := hown
  unfold OwnB at hown'
  refine Own.wpList_append2_any _ hgd s x 25 ho B 5 i0 (.int .u8 0) 1 1 Tryz.underlying25 hi hz0 hz1 hz2 rfl (by decide) (.slice ad1 l.length cap1) l.length (bvs l) hs hown' ad2 n2 cap2 (bvs m) hx (by rw [bvs_len, Nat.mul_one, hn2]) (nil_none hn2.symm hrd hnil) (RdB.cells hrd) (bvs_oneCell _) (by unfold maxLen; omega) (by omega) hB ?_
  intro v' w1 h1 h2 h3
  rw [← bvs_append, hn2, ← List.length_append] at h1
  have ho1 : OwnB w1 B v' (l ++ m) := h1
  obtain ⟨ad', cap', rfl, -⟩ := Own.shape ho1
  refine h _ ad' cap' w1 (Lib.hid rfl) ho1 ((Below.refl _ _).grown h2 hB fun k e => (own_at hown e).1) fun k hk _ hne => h2.block k hk hne
/-- Bytes that are written beside a box of the call's own. -/
structure AS (w : World) (bp : Nat) (cs : Array Value) (ad : Option Addr) (cap : Nat) (l : List UInt8) (W : World) : Prop where
  box : Blk W bp 27 cs
  own : OwnB W (bp + 1) (.slice ad l.length cap) l
  below : Below bp w W
theorem AS.kept {w W V : World} {bp : Nat} {cs : Array Value} {ad : Option Addr} {cap : Nat} {l : List UInt8} (h : AS w bp cs ad cap l W) (hB : Below W.heap.size W V) : AS w bp cs ad cap l V :=
  ⟨h.box.below hB, h.own.below hB, h.below.trans (hB.mono (Nat.le_of_lt h.box.lt))⟩
theorem AS.step {w W V w1 : World} {bp : Nat} {cs : Array Value} {ad ad' : Option Addr} {cap cap' : Nat} {l l' : List UInt8} (h : AS w bp cs ad cap l W) (hB : Below W.heap.size W V)
    (h1 : OwnB w1 (bp + 1) (.slice ad' l'.length cap') l') (h2 : Below (bp + 1) V w1) : AS w bp cs ad' cap' l' w1 :=
  ⟨(h2.block bp (by omega)).trans (h.box.below hB), h1, (h.kept hB).below.trans (h2.mono (by omega))⟩
theorem AS.size {w W : World} {bp : Nat} {cs : Array Value} {ad : Option Addr} {cap : Nat} {l : List UInt8} (h : AS w bp cs ad cap l W) : bp + 1 ≤ W.heap.size := h.box.lt
theorem kb_mod (x : Int) : bv (kb x) = .int .u8 (x % 256) := by rw [kb_bv, IntKind.wrap_u8]
/-- A head's bytes. -/
def headB (p : Pk) : List UInt8 := if flo p.kind then [kb p.kind] ++ [kb p.hops] ++ sev (un p.key.1) ++ [kb p.key.2.1] ++ fixB (un p.key.2.2) 4 else [kb p.kind]
set_option maxRecDepth 100000 in
set_option maxHeartbeats 2000000 in
theorem rhead_any (p : Pk) (w : World) :
    Calls Tryz.prog 25 #[pval p] w (Gives (headB p) w) := by
  have CF := Lib.hid (fun W => rflood_any p.kind W)
  have CN : Hid (∀ W, Calls Tryz.prog 59 #[.int .u64 (IntKind.u64.wrap p.key.1)] W (Gives (sev (un p.key.1)) W)) := Lib.hid (fun W => by rw [← un_val]; exact rNum_any _ (un_lt _) W)
  have CX : Hid (∀ W, Calls Tryz.prog 60 #[.int .u64 (IntKind.u64.wrap p.key.2.2), .int .i64 4] W (Gives (fixB (un p.key.2.2) 4) W)) := Lib.hid (fun W => by rw [← un_val]; exact rFixed_any _ 4 (un_lt _) (by omega) W)
  have hs10 := sev_len10 (un p.key.1) (un_lt _)
  have hf4 := Lib.hid (fixB_len 4 (un p.key.2.2))
  obtain ⟨W0, hW0⟩ : ∃ W0, Hid (W0 = (w.alloc (.cells p.cells 27)).alloc (.cells #[.int .u8 (p.kind % 256)] 5)) := ⟨_, Lib.hid rfl⟩
  have H0 : Hid (AS w w.heap.size p.cells (some ⟨w.heap.size + 1, 0, none⟩) 1 [kb p.kind] W0) := Lib.hid (by
    have hB : Below w.heap.size w (w.alloc (.cells p.cells 27)) := (Below.refl _ _).alloc (Nat.le_refl _) _
    have h1 := own_one (w.alloc (.cells p.cells 27)) (kb p.kind)
    rw [kb_mod, World.size_alloc] at h1
    rw [hW0.out]
    exact ⟨(Blk.new _ _ _).alloc _, h1, hB.alloc (by simp) _⟩)
  have HC : Hid (∀ ad cap l W, AS w w.heap.size p.cells ad cap l W → _ ∧ _) := Lib.hid (fun ad cap l W h => blk_cells h.box)
  have HG : Hid (∀ ad cap l W, AS w w.heap.size p.cells ad cap l W → l = headB p → Gives (headB p) w (.returned (.slice ad l.length cap)) W) := Lib.hid (fun ad cap l W h hl => by
    rw [← hl]
    refine gives_of ?_ h.below
    obtain ⟨e, h2⟩ := h.own
    refine ⟨e, h2.imp id fun ⟨g', cap', cur, a1, a2, a3⟩ => ⟨g', cap', cur, a1, by omega, a3⟩⟩)
  have HB1 : Hid (∀ ad cap l W (x : Int), AS w w.heap.size p.cells ad cap l W → l.length ≤ 1000 → Below W.heap.size W (W.alloc (.cells #[.int .u8 (x % 256)] 5)) ∧ OwnB (W.alloc (.cells #[.int .u8 (x % 256)] 5)) (w.heap.size + 1) (.slice ad l.length cap) l ∧ RdB (W.alloc (.cells #[.int .u8 (x % 256)] 5)) (some ⟨W.heap.size, 0, none⟩) [kb x] ∧ w.heap.size + 1 ≤ (W.alloc (.cells #[.int .u8 (x % 256)] 5)).heap.size) := Lib.hid (fun ad cap l W x h hl => by
    have hB : Below W.heap.size W (W.alloc (.cells #[.int .u8 (x % 256)] 5)) := (Below.refl _ _).alloc (Nat.le_refl _) _
    have h1 := own_one W (kb x)
    rw [kb_mod] at h1
    exact ⟨hB, h.own.below hB, h1.rd.1, by rw [World.size_alloc]; have := h.size; omega⟩)
  have HT : Hid (flo p.kind = true → headB p = [kb p.kind] ++ [kb p.hops] ++ sev (un p.key.1) ++ [kb p.key.2.1] ++ fixB (un p.key.2.2) 4) := Lib.hid (fun h => by unfold headB; rw [if_pos h])
  have HN : Hid (flo p.kind = false → headB p = [kb p.kind]) := Lib.hid (fun h => by unfold headB; rw [if_neg (by rw [h]; decide)])
  generalize headB p = hb at *
  obtain ⟨fl, hfl⟩ : ∃ fl, Hid (flo p.kind = fl) := ⟨_, Lib.hid rfl⟩
  rw [hfl.out] at CF HT HN
  generalize sev (un p.key.1) = ls at *
  generalize fixB (un p.key.2.2) 4 = lx at *
  obtain ⟨kind, ⟨t, f, q⟩, hops, no, to, index, total, stamp, value, ad, cap, body⟩ := p
  unfold pval
  unfold Pk.cells at hW0
  unfold Pk.cells
  simp only at CF CN CX H0 HT HN hW0 HC ⊢
  obtain ⟨bp, hbp⟩ : ∃ bp, Hid (w.heap.size = bp) := ⟨_, Lib.hid rfl⟩
  go_enter Tryz.func25, Tryz.ntmps25
  go_upto_region 2 with fail
  rw [← hW0.out]
  obtain ⟨c0, c1, c2, c3, c4, c5, c6, c7, c8, c9, c10, c11⟩ := HC.out _ _ _ _ H0.out
  go_wp2_with fail
  refine (CF.out _).mono ?_; rintro e w' ⟨rfl, rfl⟩
  cases fl with
  | false =>
    have hv := HN.out (by simp)
    clear HN HT
    subst hv
    go_wp2_with fail
    go_ret
    exact HG.out _ _ _ _ H0.out rfl
  | true =>
    have hv := Lib.hid (HT.out (by simp))
    clear HN HT
    obtain ⟨x1, x2, x3, x4⟩ := HB1.out _ _ _ _ hops H0.out (by simp)
    have X1 := Lib.hid x1
    have X2 := Lib.hid x2
    have X3 := Lib.hid x3
    clear x1 x2 x3
    go_upto_region 4 with (at_builtin; refine app_step rfl _ _ rfl (w.heap.size + 1) (some ⟨w.heap.size + 1, 0, none⟩) 1 1 [kb kind] rfl X2.out _ 1 1 [kb hops] rfl rfl X3.out (fun e => by cases e) (by simp) x4 ?_; intro l1 ad1 cap1 w1 hl1 ho1 hb1 _)
    have H1 := Lib.hid (H0.out.step X1.out ho1 hb1)
    clear ho1 hb1 X1 X2 X3 x4 c0 c1 c2 c3 c4 c5 c6 c7 c8 c9 c10 c11
    obtain ⟨c0, c1, c2, c3, c4, c5, c6, c7, c8, c9, c10, c11⟩ := HC.out _ _ _ _ H1.out
    go_wp2_with fail
    refine (CN.out _).mono ?_; rintro e w2 ⟨ad2, cap2, rfl, ho2, hB2⟩
    have n1 : Hid (l1.length = 2) := Lib.hid (by rw [hl1.out]; rfl)
    have H2 := Lib.hid (H1.out.kept hB2)
    have X3 := Lib.hid ho2.rd.1
    have X4 := Lib.hid ho2.pos.2.2.1
    have x4 := H2.out.size
    clear ho2 hB2 c0 c1 c2 c3 c4 c5 c6 c7 c8 c9 c10 c11
    go_upto_region 5 with (at_builtin; refine app_step rfl _ _ rfl (w.heap.size + 1) ad1 _ cap1 l1 rfl H2.out.own ad2 _ cap2 ls rfl rfl X3.out X4.out (by have := n1.out; omega) x4 ?_; intro l2 ad3 cap3 w3 hl2 ho3 hb3 _)
    have H3 := Lib.hid (H2.out.step (Below.refl _ _) ho3 hb3)
    have n2 : Hid (l2.length = 2 + ls.length) := Lib.hid (by rw [hl2.out, List.length_append, n1.out])
    clear ho3 hb3 X3 X4 x4 H2 H1
    obtain ⟨c0, c1, c2, c3, c4, c5, c6, c7, c8, c9, c10, c11⟩ := HC.out _ _ _ _ H3.out
    obtain ⟨x1, x2, x3, x4⟩ := HB1.out _ _ _ _ f H3.out (by have := n2.out; omega)
    have X1 := Lib.hid x1
    have X2 := Lib.hid x2
    have X3 := Lib.hid x3
    clear x1 x2 x3
    go_upto_region 6 with (at_builtin; refine app_step rfl _ _ rfl (w.heap.size + 1) ad3 _ cap3 l2 rfl X2.out _ 1 1 [kb f] rfl rfl X3.out (fun e => by cases e) (by have := n2.out; simp; omega) x4 ?_; intro l3 ad4 cap4 w4 hl3 ho4 hb4 _)
    have H4 := Lib.hid (H3.out.step X1.out ho4 hb4)
    have n3 : Hid (l3.length = 3 + ls.length) := Lib.hid (by rw [hl3.out, List.length_append, n2.out]; simp; omega)
    clear ho4 hb4 X1 X2 X3 x4 H3 c0 c1 c2 c3 c4 c5 c6 c7 c8 c9 c10 c11
    obtain ⟨c0, c1, c2, c3, c4, c5, c6, c7, c8, c9, c10, c11⟩ := HC.out _ _ _ _ H4.out
    go_wp2_with fail
    refine (CX.out _).mono ?_; rintro e w5 ⟨ad5, cap5, rfl, ho5, hB5⟩
    have H5 := Lib.hid (H4.out.kept hB5)
    have X3 := Lib.hid ho5.rd.1
    have X4 := Lib.hid ho5.pos.2.2.1
    have x4 := H5.out.size
    clear ho5 hB5 c0 c1 c2 c3 c4 c5 c6 c7 c8 c9 c10 c11 H4
    go_upto_region 7 with (at_builtin; refine app_step rfl _ _ rfl (w.heap.size + 1) ad4 _ cap4 l3 rfl H5.out.own ad5 _ cap5 lx rfl rfl X3.out X4.out (by have := n3.out; have := hf4.out; omega) x4 ?_; intro l4 ad6 cap6 w6 hl4 ho6 hb6 _)
    have H6 := Lib.hid (H5.out.step (Below.refl _ _) ho6 hb6)
    clear ho6 hb6 X3 X4 x4 H5
    go_wp2_with fail
    go_ret
    exact HG.out _ _ _ _ H6.out (by rw [hl4.out, hl3.out, hl2.out, hl1.out]; exact hv.out.symm)
end Go.Proofs.YtanfnhgaooafeaaGreatDoor.Hed
