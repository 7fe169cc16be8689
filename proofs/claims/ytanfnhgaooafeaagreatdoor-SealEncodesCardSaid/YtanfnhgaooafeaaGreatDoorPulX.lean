/- PulA PulM PulB PulE PulF, laid into one. -/
import Derived.Test.YtanfnhgaooafeaaGreatDoorDatX
import Derived.Test.YtanfnhgaooafeaaGreatDoorHedH
import Derived.Test.YtanfnhgaooafeaaGreatDoorBufX
import Derived.Test.YtanfnhgaooafeaaGreatDoorHedX
/-! PulA -/
namespace Go.Proofs.YtanfnhgaooafeaaGreatDoor.Pul
open Go.ChangeShapes Go.WideShapes Go.ChangeAt Go.RowKit Go.Deep
open Go.Proofs.YtanfnhgaooafeaaGreatDoor.Byt Go.Proofs.YtanfnhgaooafeaaGreatDoor.Key Go.Proofs.YtanfnhgaooafeaaGreatDoor.Buf Go.Proofs.YtanfnhgaooafeaaGreatDoor.Hed Go.Proofs.YtanfnhgaooafeaaGreatDoor.Dat
set_option linter.unusedVariables false
set_option linter.unusedSimpArgs false
/-- Which parts stand behind a head. -/
def pcs (a b c : Bool) : Array Value := #[.bool a, .bool b, .bool c]
/-- What a kind has. -/
def kcs (k : Int) : Array Value := pcs (k == 1 || k == 2) (k == 2) (k == 3)
theorem infoPt : (Tryz.prog.info? 76).map (·.size) = some 3 := by kernel_rfl
theorem pcs_one (a b c : Bool) : (pcs a b c).all (·.oneCell') = true := by simp [pcs, Value.oneCell']
theorem results_pt {fn : Func} {i : Nat} (h : fn.results = #[.cell i 76]) (tmps : Array Value) (w : World) (g : Nat) (cs : Array Value)
    (hp : tmps.getD i undef = .pointer (some ⟨g, 0, none⟩)) (hg : Blk w g 76 cs) (hs : cs.size = 3) :
    (results fn tmps).run Tryz.prog w = .ok (.agg cs) w := by
  have hp' : tmps[i]?.getD undef = .pointer (some ⟨g, 0, none⟩) := by simpa using hp
  simp [results, h, hp', asAddr, run_loadVar_row w g 76 _ cs (0, 0) _ hg Tryz.underlying76 rfl (by rw [hs]; exact infoPt)]
theorem pts_fin {w W : World} {a b c a' b' c' : Bool} (h1 : Blk W w.heap.size 76 (pcs a' b' c')) (h2 : Below w.heap.size w W) :
    Blk (W.setRow w.heap.size (pcs a b c)) w.heap.size 76 (pcs a b c) ∧ Below w.heap.size w (W.setRow w.heap.size (pcs a b c)) := ⟨Blk.row h1 _ rfl, below_setRow h2 (Nat.le_refl _) _⟩
set_option maxRecDepth 100000 in
set_option maxHeartbeats 1000000 in
theorem parts_any (k : Int) (w : World) :
    Calls Tryz.prog 63 #[.int .i64 k] w fun e w' => e = .returned (.agg (kcs k)) ∧ Below w.heap.size w w' := by
  obtain ⟨wb, hwb⟩ : ∃ wb, Hid (wb = (w.alloc (.cells (pcs false false false) 76)).alloc (.cells (pcs false false false) 76)) := ⟨_, Lib.hid rfl⟩
  have HX := Lib.hid (boxes_tt w wb _ _ _ _ hwb.out)
  have O : Hid (∀ a b c, (pcs a b c).all (·.oneCell') = true) := Lib.hid (fun a b c => pcs_one a b c)
  have HF : Hid (∀ W a b c, Blk W w.heap.size 76 (pcs false false false) → Below w.heap.size w W → _ ∧ _) := Lib.hid (fun W a b c h1 h2 => pts_fin (a := a) (b := b) (c := c) h1 h2)
  unfold pcs at hwb HX O HF
  unfold kcs pcs
  by_cases h1 : k = 1
  · subst h1
    obtain ⟨hB, x1, x2⟩ := HX.out
    have k0 := (HX.out.2.2).cell 0
    have f0 := (HX.out.2.2).free 0
    simp only [List.getElem?_toArray, List.getElem?_cons_succ, List.getElem?_cons_zero] at k0
    clear hB x1 x2
    go_enter Tryz.func63, Tryz.ntmps63
    go_upto_region 2 with fail
    rw [← hwb.out]
    go_upto_region 9 with fail
    obtain ⟨W2, hW2⟩ : ∃ W2, Hid (W2 = (wb.setCell ⟨w.heap.size + 1, 0, none⟩ (.bool true))) := ⟨_, Lib.hid rfl⟩
    have b2 : Hid (Blk W2 (w.heap.size + 1) 76 #[.bool true, .bool false, .bool false]) := Lib.hid (by rw [hW2.out]; exact (HX.out.2.2.put 0 (.bool true)))
    have b1 : Hid (Blk W2 w.heap.size 76 #[.bool false, .bool false, .bool false]) := Lib.hid (by rw [hW2.out]; exact (HX.out.2.1.far (p := ⟨w.heap.size + 1, 0, none⟩) (by simp) (.bool true)))
    have hB : Hid (Below w.heap.size w W2) := Lib.hid (by rw [hW2.out]; exact (HX.out.1.setCell (p := ⟨w.heap.size + 1, 0, none⟩) (by simp) (.bool true)))
    rw [← hW2.out]
    clear k0 f0
    have q := HF.out W2 true false false b1.out hB.out
    have o := Lib.hid (O.out true false false)
    have q1 := Lib.hid q.1
    have q2 := Lib.hid q.2
    clear q O HF HX hwb hB
    go_wp2_with (first
      | (refine wpList_load_row rfl 76 _ rfl _ rfl _ #[.bool true, .bool false, .bool false] _ _ b2.out Tryz.underlying76 rfl infoPt ?_)
      | (refine wpList_store_row rfl 76 _ _ rfl _ #[.bool true, .bool false, .bool false] rfl rfl _ _ b1.out infoPt rfl o.out ?_))
    exact bodyPost_ret (results_pt rfl _ _ w.heap.size _ rfl q1.out rfl) rfl ⟨by simp, q2.out⟩
  by_cases h2 : k = 2
  · subst h2
    obtain ⟨hB, x1, x2⟩ := HX.out
    have k1 := (HX.out.2.2).cell 1
    have f1 := (HX.out.2.2).free 1
    have k0 := (HX.out.2.2).cell 0
    have f0 := (HX.out.2.2).free 0
    simp only [List.getElem?_toArray, List.getElem?_cons_succ, List.getElem?_cons_zero] at k1 k0
    clear hB x1 x2
    go_enter Tryz.func63, Tryz.ntmps63
    go_upto_region 2 with fail
    rw [← hwb.out]
    go_upto_region 9 with fail
    obtain ⟨W2, hW2⟩ : ∃ W2, Hid (W2 = ((wb.setCell ⟨w.heap.size + 1, 1, none⟩ (.bool true)).setCell ⟨w.heap.size + 1, 0, none⟩ (.bool true))) := ⟨_, Lib.hid rfl⟩
    have b2 : Hid (Blk W2 (w.heap.size + 1) 76 #[.bool true, .bool true, .bool false]) := Lib.hid (by rw [hW2.out]; exact ((HX.out.2.2.put 1 (.bool true)).put 0 (.bool true)))
    have b1 : Hid (Blk W2 w.heap.size 76 #[.bool false, .bool false, .bool false]) := Lib.hid (by rw [hW2.out]; exact ((HX.out.2.1.far (p := ⟨w.heap.size + 1, 1, none⟩) (by simp) (.bool true)).far (p := ⟨w.heap.size + 1, 0, none⟩) (by simp) (.bool true)))
    have hB : Hid (Below w.heap.size w W2) := Lib.hid (by rw [hW2.out]; exact ((HX.out.1.setCell (p := ⟨w.heap.size + 1, 1, none⟩) (by simp) (.bool true)).setCell (p := ⟨w.heap.size + 1, 0, none⟩) (by simp) (.bool true)))
    rw [← hW2.out]
    clear k1 f1 k0 f0
    have q := HF.out W2 true true false b1.out hB.out
    have o := Lib.hid (O.out true true false)
    have q1 := Lib.hid q.1
    have q2 := Lib.hid q.2
    clear q O HF HX hwb hB
    go_wp2_with (first
      | (refine wpList_load_row rfl 76 _ rfl _ rfl _ #[.bool true, .bool true, .bool false] _ _ b2.out Tryz.underlying76 rfl infoPt ?_)
      | (refine wpList_store_row rfl 76 _ _ rfl _ #[.bool true, .bool true, .bool false] rfl rfl _ _ b1.out infoPt rfl o.out ?_))
    exact bodyPost_ret (results_pt rfl _ _ w.heap.size _ rfl q1.out rfl) rfl ⟨by simp, q2.out⟩
  by_cases h3 : k = 3
  · subst h3
    obtain ⟨hB, x1, x2⟩ := HX.out
    have k2 := (HX.out.2.2).cell 2
    have f2 := (HX.out.2.2).free 2
    simp only [List.getElem?_toArray, List.getElem?_cons_succ, List.getElem?_cons_zero] at k2
    clear hB x1 x2
    go_enter Tryz.func63, Tryz.ntmps63
    go_upto_region 2 with fail
    rw [← hwb.out]
    go_upto_region 9 with fail
    obtain ⟨W2, hW2⟩ : ∃ W2, Hid (W2 = (wb.setCell ⟨w.heap.size + 1, 2, none⟩ (.bool true))) := ⟨_, Lib.hid rfl⟩
    have b2 : Hid (Blk W2 (w.heap.size + 1) 76 #[.bool false, .bool false, .bool true]) := Lib.hid (by rw [hW2.out]; exact (HX.out.2.2.put 2 (.bool true)))
    have b1 : Hid (Blk W2 w.heap.size 76 #[.bool false, .bool false, .bool false]) := Lib.hid (by rw [hW2.out]; exact (HX.out.2.1.far (p := ⟨w.heap.size + 1, 2, none⟩) (by simp) (.bool true)))
    have hB : Hid (Below w.heap.size w W2) := Lib.hid (by rw [hW2.out]; exact (HX.out.1.setCell (p := ⟨w.heap.size + 1, 2, none⟩) (by simp) (.bool true)))
    rw [← hW2.out]
    clear k2 f2
    have q := HF.out W2 false false true b1.out hB.out
    have o := Lib.hid (O.out false false true)
    have q1 := Lib.hid q.1
    have q2 := Lib.hid q.2
    clear q O HF HX hwb hB
    go_wp2_with (first
      | (refine wpList_load_row rfl 76 _ rfl _ rfl _ #[.bool false, .bool false, .bool true] _ _ b2.out Tryz.underlying76 rfl infoPt ?_)
      | (refine wpList_store_row rfl 76 _ _ rfl _ #[.bool false, .bool false, .bool true] rfl rfl _ _ b1.out infoPt rfl o.out ?_))
    exact bodyPost_ret (results_pt rfl _ _ w.heap.size _ rfl q1.out rfl) rfl ⟨by simp, q2.out⟩
  have e1 : (k == 1) = false := by simpa using h1
  have e2 : (k == 2) = false := by simpa using h2
  have e3 : (k == 3) = false := by simpa using h3
  rw [e1, e2, e3]
  simp only [Bool.or_false]
  obtain ⟨hB, x1, x2⟩ := HX.out
  clear hB x1 x2
  go_enter Tryz.func63, Tryz.ntmps63
  go_upto_region 2 with fail
  rw [← hwb.out]
  go_upto_region 9 with fail
  obtain ⟨W2, hW2⟩ : ∃ W2, Hid (W2 = wb) := ⟨_, Lib.hid rfl⟩
  have b2 : Hid (Blk W2 (w.heap.size + 1) 76 #[.bool false, .bool false, .bool false]) := Lib.hid (by rw [hW2.out]; exact HX.out.2.2)
  have b1 : Hid (Blk W2 w.heap.size 76 #[.bool false, .bool false, .bool false]) := Lib.hid (by rw [hW2.out]; exact HX.out.2.1)
  have hB : Hid (Below w.heap.size w W2) := Lib.hid (by rw [hW2.out]; exact HX.out.1)
  have hW2 := hW2.out
  subst hW2
  have q := HF.out W2 false false false b1.out hB.out
  have o := Lib.hid (O.out false false false)
  have q1 := Lib.hid q.1
  have q2 := Lib.hid q.2
  clear q O HF HX hwb hB
  go_wp2_with (first
    | (refine wpList_load_row rfl 76 _ rfl _ rfl _ #[.bool false, .bool false, .bool false] _ _ b2.out Tryz.underlying76 rfl infoPt ?_)
    | (refine wpList_store_row rfl 76 _ _ rfl _ #[.bool false, .bool false, .bool false] rfl rfl _ _ b1.out infoPt rfl o.out ?_))
  exact bodyPost_ret (results_pt rfl _ _ w.heap.size _ rfl q1.out rfl) rfl ⟨by simp, q2.out⟩
/-- May a round have such a number? -/
def noOk (n : Int) : Bool := decide (0 ≤ n) && decide (n ≤ 1152921504606846976)
theorem isno_any (n : Int) (w : World) :
    Calls Tryz.prog 65 #[.int .i64 n] w fun e w' => e = .returned (.bool (noOk n)) ∧ w = w' := by
  unfold noOk
  obtain ⟨a, ha⟩ : ∃ a, decide (0 ≤ n) = a := ⟨_, rfl⟩
  obtain ⟨b, hb⟩ : ∃ b, decide (n ≤ 1152921504606846976) = b := ⟨_, rfl⟩
  have ha2 : decide (n ≥ 0) = a := ha
  rw [ha, hb]
  cases a with
  | false =>
    go_enter Tryz.func65, Tryz.ntmps65
    go_wp2_with fail
    go_ret
    exact ⟨rfl, rfl⟩
  | true =>
    go_enter Tryz.func65, Tryz.ntmps65
    go_wp2_with fail
    go_ret
    exact ⟨by simp, rfl⟩
end Go.Proofs.YtanfnhgaooafeaaGreatDoor.Pul
/-! PulM -/
namespace Go.Proofs.YtanfnhgaooafeaaGreatDoor.Pul
open Go.ChangeShapes Go.WideShapes Go.ChangeAt Go.RowKit Go.Deep
open Go.Proofs.YtanfnhgaooafeaaGreatDoor.Byt Go.Proofs.YtanfnhgaooafeaaGreatDoor.Key Go.Proofs.YtanfnhgaooafeaaGreatDoor.Buf Go.Proofs.YtanfnhgaooafeaaGreatDoor.Hed Go.Proofs.YtanfnhgaooafeaaGreatDoor.Dat Go.Proofs.YtanfnhgaooafeaaGreatDoor.BufM
set_option linter.unusedVariables false
set_option linter.unusedSimpArgs false
def probeP (x : Int) : Pk := ⟨1, (0, 0, 0), 0, 0, 0, 0, 0, x, 0, none, 0, []⟩
def echoP (x y : Int) : Pk := ⟨2, (0, 0, 0), 0, 0, 0, 0, 0, x, y, none, 0, []⟩
def beacP (k : Ky) (h n : Int) : Pk := ⟨3, k, h, n, 0, 0, 0, 0, 0, none, 0, []⟩
/-- The packet's head alone. -/
def headP (p : Pk) : Pk := ⟨p.kind, p.key, p.hops, 0, 0, 0, 0, 0, 0, none, 0, []⟩
/-- The packet, what its kind has put aside. -/
def offP (p : Pk) : Pk := if p.kind = 1 then { p with stamp := 0 } else if p.kind = 2 then { p with stamp := 0, value := 0 } else { p with no := 0 }
/-- Is the kind one of these? -/
def kk (k : Int) : Bool := (k == 1) || ((k == 2) || (k == 3))
/-- May the packet be? -/
def pulG (p : Pk) : Bool := kk p.kind && (gd p && (noOk p.no && eqP (offP p) (headP p)))
theorem str_eq (l m : List UInt8) : (strB l == strB m) = decide (l = m) := by
  rw [beq_toListBytes, ByteArray.toList_eq, ByteArray.toList_eq]
  unfold strB
  rw [Bool.eq_iff_iff]
  simp
theorem eqP_iff (p q : Pk) : eqP p q = true ↔ p.kind = q.kind ∧ p.key = q.key ∧ p.hops = q.hops ∧ p.no = q.no ∧ p.to = q.to ∧ p.index = q.index ∧ p.total = q.total ∧ p.stamp = q.stamp ∧ p.value = q.value ∧ p.body = q.body := by
  unfold eqP eqK
  rw [str_eq]
  simp only [Bool.and_eq_true, beq_iff_eq, decide_eq_true_eq]
theorem gd_iff1 (p : Pk) (h : p.kind = 1 ∨ p.kind = 2) : gd p = true ↔ p.hops = 0 ∧ p.key = (0, 0, 0) := by
  rw [gd_one (flo_no (by omega))]
  unfold eqK
  simp only [Bool.and_eq_true, decide_eq_true_eq]
  constructor
  · rintro ⟨⟨-, h1⟩, h2⟩
    exact ⟨h1, h2⟩
  · rintro ⟨h1, h2⟩
    exact ⟨⟨by omega, h1⟩, h2⟩
theorem noOk_iff (n : Int) : noOk n = true ↔ 0 ≤ n ∧ n ≤ 1152921504606846976 := by
  unfold noOk
  simp only [Bool.and_eq_true, decide_eq_true_eq]
theorem kk_iff (k : Int) : kk k = true ↔ k = 1 ∨ k = 2 ∨ k = 3 := by
  unfold kk
  simp only [Bool.or_eq_true, beq_iff_eq]
/-- The document's rule. -/
theorem pulG_probe (p : Pk) (h : p.kind = 1) : pulG p = (gd p && eqP p (probeP p.stamp)) := by
  unfold pulG
  rw [Bool.eq_iff_iff]
  simp only [Bool.and_eq_true, eqP_iff, noOk_iff, kk_iff, gd_iff1 p (.inl h)]
  unfold offP headP probeP
  rw [if_pos h]
  simp only
  constructor
  · rintro ⟨-, ⟨h1, h2⟩, h3, -, -, -, h4, h5, h6, h7, -, h8, h9⟩
    exact ⟨⟨h1, h2⟩, h, h2, h1, h4, h5, h6, h7, trivial, h8, h9⟩
  · rintro ⟨⟨h1, h2⟩, -, -, -, h4, h5, h6, h7, -, h8, h9⟩
    exact ⟨.inl h, ⟨h1, h2⟩, by omega, trivial, trivial, trivial, h4, h5, h6, h7, trivial, h8, h9⟩
theorem pulG_echo (p : Pk) (h : p.kind = 2) : pulG p = (gd p && eqP p (echoP p.stamp p.value)) := by
  unfold pulG
  rw [Bool.eq_iff_iff]
  simp only [Bool.and_eq_true, eqP_iff, noOk_iff, kk_iff, gd_iff1 p (.inr h)]
  unfold offP headP echoP
  rw [if_neg (by omega), if_pos h]
  simp only
  constructor
  · rintro ⟨-, ⟨h1, h2⟩, h3, -, -, -, h4, h5, h6, h7, -, -, h9⟩
    exact ⟨⟨h1, h2⟩, h, h2, h1, h4, h5, h6, h7, trivial, trivial, h9⟩
  · rintro ⟨⟨h1, h2⟩, -, -, -, h4, h5, h6, h7, -, -, h9⟩
    exact ⟨.inr (.inl h), ⟨h1, h2⟩, by omega, trivial, trivial, trivial, h4, h5, h6, h7, trivial, trivial, h9⟩
theorem pulG_else (p : Pk) (h1 : p.kind ≠ 1) (h2 : p.kind ≠ 2) : pulG p = (gd p && ((p.kind == 3) && (eqP p (beacP p.key p.hops p.no) && (decide (0 ≤ p.no) && decide (p.no ≤ 1152921504606846976))))) := by
  unfold pulG
  rw [Bool.eq_iff_iff]
  simp only [Bool.and_eq_true, eqP_iff, noOk_iff, kk_iff, beq_iff_eq, decide_eq_true_eq]
  unfold offP headP beacP
  rw [if_neg h1, if_neg h2]
  simp only
  constructor
  · rintro ⟨h0, hg, h3, -, -, -, -, h5, h6, h7, h8, h9, h10⟩
    have hk : p.kind = 3 := by omega
    exact ⟨hg, hk, ⟨hk, trivial, trivial, trivial, h5, h6, h7, h8, h9, h10⟩, h3⟩
  · rintro ⟨hg, hk, ⟨-, -, -, -, h5, h6, h7, h8, h9, h10⟩, h3⟩
    exact ⟨.inr (.inr hk), hg, h3, trivial, trivial, trivial, trivial, h5, h6, h7, h8, h9, h10⟩
end Go.Proofs.YtanfnhgaooafeaaGreatDoor.Pul
/-! PulB -/
namespace Go.Proofs.YtanfnhgaooafeaaGreatDoor.Pul
open Go.ChangeShapes Go.WideShapes Go.ChangeAt Go.RowKit Go.Deep
open Go.Proofs.YtanfnhgaooafeaaGreatDoor.Byt Go.Proofs.YtanfnhgaooafeaaGreatDoor.Key Go.Proofs.YtanfnhgaooafeaaGreatDoor.Buf Go.Proofs.YtanfnhgaooafeaaGreatDoor.Hed Go.Proofs.YtanfnhgaooafeaaGreatDoor.Dat
set_option linter.unusedVariables false
set_option linter.unusedSimpArgs false
theorem boxes3 (w W : World) (c d e : Array Value) (t t2 t3 : TypeId) (h : W = ((w.alloc (.cells c t)).alloc (.cells d t2)).alloc (.cells e t3)) :
    Below w.heap.size w W ∧ Blk W w.heap.size t c ∧ Blk W (w.heap.size + 1) t2 d ∧ Blk W (w.heap.size + 2) t3 e := by
  subst h
  obtain ⟨h1, h2, h3⟩ := boxes_tt w _ c d t t2 rfl
  have hs : ((w.alloc (.cells c t)).alloc (.cells d t2)).heap.size = w.heap.size + 2 := by simp
  refine ⟨h1.alloc h1.size _, h2.alloc _, h3.alloc _, ?_⟩
  have := Blk.new ((w.alloc (.cells c t)).alloc (.cells d t2)) t3 e
  rwa [hs] at this
/-- A packet's box, what its kind has, the packet handed back. -/
structure A3 (w : World) (cs ds : Array Value) (W : World) : Prop where
  box : Blk W w.heap.size 27 cs
  pts : Blk W (w.heap.size + 1) 76 ds
  res : Blk W (w.heap.size + 2) 27 (Pk.cells zero)
  below : Below w.heap.size w W
theorem A3.put {w W : World} {cs ds : Array Value} (h : A3 w cs ds W) (i : Nat) (u : Value) : A3 w (cs.setIfInBounds i u) ds (W.setCell ⟨w.heap.size, i, none⟩ u) :=
  ⟨h.box.put i u, h.pts.far (p := ⟨w.heap.size, i, none⟩) (by simp) u, h.res.far (p := ⟨w.heap.size, i, none⟩) (by simp) u, h.below.setCell (p := ⟨w.heap.size, i, none⟩) (Nat.le_refl _) u⟩
theorem A3.fin {w W : World} {cs ds : Array Value} (h : A3 w cs ds W) (es : Array Value) (hs : (Pk.cells zero).size = es.size) : Blk (W.setRow (w.heap.size + 2) es) (w.heap.size + 2) 27 es ∧ Below w.heap.size w (W.setRow (w.heap.size + 2) es) :=
  ⟨Blk.row h.res es hs, below_setRow h.below (by omega) _⟩
set_option maxRecDepth 100000 in
set_option maxHeartbeats 1000000 in
theorem aside_1 (p : Pk) (w : World) :
    Calls Tryz.prog 67 #[pval p, .agg #[.bool true, .bool false, .bool false]] w fun e w' => e = .returned (pval { p with stamp := 0 }) ∧ Below w.heap.size w w' := by
  obtain ⟨wb, hwb⟩ : ∃ wb, Hid (wb = ((w.alloc (.cells p.cells 27)).alloc (.cells #[.bool true, .bool false, .bool false] 76)).alloc (.cells (Pk.cells zero) 27)) := ⟨_, Lib.hid rfl⟩
  have hX := boxes3 w wb _ _ _ _ _ _ hwb.out
  have H0 := Lib.hid (A3.mk hX.2.1 hX.2.2.1 hX.2.2.2 hX.1)
  obtain ⟨kind, ⟨t, f, s⟩, hops, no, to, index, total, stamp, value, ad, cap, body⟩ := p
  have HO := Lib.hid (pkP_one (⟨kind, (t, f, s), hops, no, to, index, total, 0, value, ad, cap, body⟩ : Pk))
  unfold zero Pk.cells at hwb
  unfold Pk.cells at HO H0
  unfold pval Pk.cells
  simp only [List.length_nil] at hwb HO H0 ⊢
  obtain ⟨n, hn⟩ : ∃ n, body.length = n := ⟨_, rfl⟩
  simp only [hn] at hwb HO H0 ⊢
  clear hn hX
  have p0 := H0.out.pts.cell 0
  have p1 := H0.out.pts.cell 1
  have p2 := H0.out.pts.cell 2
  simp only [List.getElem?_toArray, List.getElem?_cons_succ, List.getElem?_cons_zero] at p0 p1 p2
  go_enter Tryz.func67, Tryz.ntmps67
  go_upto_region 1 with fail
  rw [← hwb.out]
  clear hwb
  have c := H0.out.box.cell 9
  have f := H0.out.box.free 9
  simp only [List.getElem?_toArray, List.getElem?_cons_succ, List.getElem?_cons_zero] at c
  have H1 := Lib.hid (H0.out.put 9 (.int .i64 0))
  simp only [List.setIfInBounds_toArray, List.set_cons_zero, List.set_cons_succ] at H1
  clear H0
  go_upto_region 3 with fail
  obtain ⟨w1, ew1⟩ : ∃ w1, wb.setCell ⟨w.heap.size, 9, none⟩ (.int .i64 0) = w1 := ⟨_, rfl⟩
  rw [ew1] at H1 ⊢
  clear c f p0 p1 p2 ew1
  have p0 := H1.out.pts.cell 0
  have p1 := H1.out.pts.cell 1
  have p2 := H1.out.pts.cell 2
  simp only [List.getElem?_toArray, List.getElem?_cons_succ, List.getElem?_cons_zero] at p0 p1 p2
  have q := H1.out.fin #[.int .i64 kind, .int .i64 t, .int .i64 f, .int .u32 s, .int .i64 hops, .int .i64 no, .int .i64 to, .int .i64 index, .int .i64 total, .int .i64 0, .int .i64 value, .slice ad n cap] rfl
  have b1 := Lib.hid H1.out.box
  have b2 := Lib.hid H1.out.res
  have q1 := Lib.hid q.1
  have q2 := Lib.hid q.2
  unfold zero Pk.cells at b2
  simp only [List.length_nil] at b2
  clear q H1
  go_wp2_with (first
    | (refine wpList_load_row rfl 27 _ rfl _ rfl _ #[.int .i64 kind, .int .i64 t, .int .i64 f, .int .u32 s, .int .i64 hops, .int .i64 no, .int .i64 to, .int .i64 index, .int .i64 total, .int .i64 0, .int .i64 value, .slice ad n cap] _ _ b1.out Tryz.underlying27 rfl infoPk ?_)
    | (refine wpList_store_row rfl 27 _ _ rfl _ #[.int .i64 kind, .int .i64 t, .int .i64 f, .int .u32 s, .int .i64 hops, .int .i64 no, .int .i64 to, .int .i64 index, .int .i64 total, .int .i64 0, .int .i64 value, .slice ad n cap] rfl rfl _ _ b2.out infoPk rfl HO.out ?_))
  exact bodyPost_ret (results_pk1 rfl _ _ (w.heap.size + 2) _ rfl q1.out rfl) rfl ⟨rfl, q2.out⟩
set_option maxRecDepth 100000 in
set_option maxHeartbeats 1000000 in
theorem aside_2 (p : Pk) (w : World) :
    Calls Tryz.prog 67 #[pval p, .agg #[.bool true, .bool true, .bool false]] w fun e w' => e = .returned (pval { p with stamp := 0, value := 0 }) ∧ Below w.heap.size w w' := by
  obtain ⟨wb, hwb⟩ : ∃ wb, Hid (wb = ((w.alloc (.cells p.cells 27)).alloc (.cells #[.bool true, .bool true, .bool false] 76)).alloc (.cells (Pk.cells zero) 27)) := ⟨_, Lib.hid rfl⟩
  have hX := boxes3 w wb _ _ _ _ _ _ hwb.out
  have H0 := Lib.hid (A3.mk hX.2.1 hX.2.2.1 hX.2.2.2 hX.1)
  obtain ⟨kind, ⟨t, f, s⟩, hops, no, to, index, total, stamp, value, ad, cap, body⟩ := p
  have HO := Lib.hid (pkP_one (⟨kind, (t, f, s), hops, no, to, index, total, 0, 0, ad, cap, body⟩ : Pk))
  unfold zero Pk.cells at hwb
  unfold Pk.cells at HO H0
  unfold pval Pk.cells
  simp only [List.length_nil] at hwb HO H0 ⊢
  obtain ⟨n, hn⟩ : ∃ n, body.length = n := ⟨_, rfl⟩
  simp only [hn] at hwb HO H0 ⊢
  clear hn hX
  have p0 := H0.out.pts.cell 0
  have p1 := H0.out.pts.cell 1
  have p2 := H0.out.pts.cell 2
  simp only [List.getElem?_toArray, List.getElem?_cons_succ, List.getElem?_cons_zero] at p0 p1 p2
  go_enter Tryz.func67, Tryz.ntmps67
  go_upto_region 1 with fail
  rw [← hwb.out]
  clear hwb
  have c := H0.out.box.cell 9
  have f := H0.out.box.free 9
  simp only [List.getElem?_toArray, List.getElem?_cons_succ, List.getElem?_cons_zero] at c
  have H1 := Lib.hid (H0.out.put 9 (.int .i64 0))
  simp only [List.setIfInBounds_toArray, List.set_cons_zero, List.set_cons_succ] at H1
  clear H0
  go_upto_region 3 with fail
  obtain ⟨w1, ew1⟩ : ∃ w1, wb.setCell ⟨w.heap.size, 9, none⟩ (.int .i64 0) = w1 := ⟨_, rfl⟩
  rw [ew1] at H1 ⊢
  clear c f p0 p1 p2 ew1
  have p0 := H1.out.pts.cell 0
  have p1 := H1.out.pts.cell 1
  have p2 := H1.out.pts.cell 2
  simp only [List.getElem?_toArray, List.getElem?_cons_succ, List.getElem?_cons_zero] at p0 p1 p2
  have c := H1.out.box.cell 10
  have f := H1.out.box.free 10
  simp only [List.getElem?_toArray, List.getElem?_cons_succ, List.getElem?_cons_zero] at c
  have H2 := Lib.hid (H1.out.put 10 (.int .i64 0))
  simp only [List.setIfInBounds_toArray, List.set_cons_zero, List.set_cons_succ] at H2
  clear H1
  go_upto_region 5 with fail
  obtain ⟨w2, ew2⟩ : ∃ w2, w1.setCell ⟨w.heap.size, 10, none⟩ (.int .i64 0) = w2 := ⟨_, rfl⟩
  rw [ew2] at H2 ⊢
  clear c f p0 p1 p2 ew2
  have p0 := H2.out.pts.cell 0
  have p1 := H2.out.pts.cell 1
  have p2 := H2.out.pts.cell 2
  simp only [List.getElem?_toArray, List.getElem?_cons_succ, List.getElem?_cons_zero] at p0 p1 p2
  have q := H2.out.fin #[.int .i64 kind, .int .i64 t, .int .i64 f, .int .u32 s, .int .i64 hops, .int .i64 no, .int .i64 to, .int .i64 index, .int .i64 total, .int .i64 0, .int .i64 0, .slice ad n cap] rfl
  have b1 := Lib.hid H2.out.box
  have b2 := Lib.hid H2.out.res
  have q1 := Lib.hid q.1
  have q2 := Lib.hid q.2
  unfold zero Pk.cells at b2
  simp only [List.length_nil] at b2
  clear q H2
  go_wp2_with (first
    | (refine wpList_load_row rfl 27 _ rfl _ rfl _ #[.int .i64 kind, .int .i64 t, .int .i64 f, .int .u32 s, .int .i64 hops, .int .i64 no, .int .i64 to, .int .i64 index, .int .i64 total, .int .i64 0, .int .i64 0, .slice ad n cap] _ _ b1.out Tryz.underlying27 rfl infoPk ?_)
    | (refine wpList_store_row rfl 27 _ _ rfl _ #[.int .i64 kind, .int .i64 t, .int .i64 f, .int .u32 s, .int .i64 hops, .int .i64 no, .int .i64 to, .int .i64 index, .int .i64 total, .int .i64 0, .int .i64 0, .slice ad n cap] rfl rfl _ _ b2.out infoPk rfl HO.out ?_))
  exact bodyPost_ret (results_pk1 rfl _ _ (w.heap.size + 2) _ rfl q1.out rfl) rfl ⟨rfl, q2.out⟩
set_option maxRecDepth 100000 in
set_option maxHeartbeats 1000000 in
theorem aside_3 (p : Pk) (w : World) :
    Calls Tryz.prog 67 #[pval p, .agg #[.bool false, .bool false, .bool true]] w fun e w' => e = .returned (pval { p with no := 0 }) ∧ Below w.heap.size w w' := by
  obtain ⟨wb, hwb⟩ : ∃ wb, Hid (wb = ((w.alloc (.cells p.cells 27)).alloc (.cells #[.bool false, .bool false, .bool true] 76)).alloc (.cells (Pk.cells zero) 27)) := ⟨_, Lib.hid rfl⟩
  have hX := boxes3 w wb _ _ _ _ _ _ hwb.out
  have H0 := Lib.hid (A3.mk hX.2.1 hX.2.2.1 hX.2.2.2 hX.1)
  obtain ⟨kind, ⟨t, f, s⟩, hops, no, to, index, total, stamp, value, ad, cap, body⟩ := p
  have HO := Lib.hid (pkP_one (⟨kind, (t, f, s), hops, 0, to, index, total, stamp, value, ad, cap, body⟩ : Pk))
  unfold zero Pk.cells at hwb
  unfold Pk.cells at HO H0
  unfold pval Pk.cells
  simp only [List.length_nil] at hwb HO H0 ⊢
  obtain ⟨n, hn⟩ : ∃ n, body.length = n := ⟨_, rfl⟩
  simp only [hn] at hwb HO H0 ⊢
  clear hn hX
  have p0 := H0.out.pts.cell 0
  have p1 := H0.out.pts.cell 1
  have p2 := H0.out.pts.cell 2
  simp only [List.getElem?_toArray, List.getElem?_cons_succ, List.getElem?_cons_zero] at p0 p1 p2
  go_enter Tryz.func67, Tryz.ntmps67
  go_upto_region 1 with fail
  rw [← hwb.out]
  clear hwb
  have c := H0.out.box.cell 5
  have f := H0.out.box.free 5
  simp only [List.getElem?_toArray, List.getElem?_cons_succ, List.getElem?_cons_zero] at c
  have H1 := Lib.hid (H0.out.put 5 (.int .i64 0))
  simp only [List.setIfInBounds_toArray, List.set_cons_zero, List.set_cons_succ] at H1
  clear H0
  go_upto_region 7 with fail
  obtain ⟨w1, ew1⟩ : ∃ w1, wb.setCell ⟨w.heap.size, 5, none⟩ (.int .i64 0) = w1 := ⟨_, rfl⟩
  rw [ew1] at H1 ⊢
  clear c f p0 p1 p2 ew1
  have p0 := H1.out.pts.cell 0
  have p1 := H1.out.pts.cell 1
  have p2 := H1.out.pts.cell 2
  simp only [List.getElem?_toArray, List.getElem?_cons_succ, List.getElem?_cons_zero] at p0 p1 p2
  have q := H1.out.fin #[.int .i64 kind, .int .i64 t, .int .i64 f, .int .u32 s, .int .i64 hops, .int .i64 0, .int .i64 to, .int .i64 index, .int .i64 total, .int .i64 stamp, .int .i64 value, .slice ad n cap] rfl
  have b1 := Lib.hid H1.out.box
  have b2 := Lib.hid H1.out.res
  have q1 := Lib.hid q.1
  have q2 := Lib.hid q.2
  unfold zero Pk.cells at b2
  simp only [List.length_nil] at b2
  clear q H1
  go_wp2_with (first
    | (refine wpList_load_row rfl 27 _ rfl _ rfl _ #[.int .i64 kind, .int .i64 t, .int .i64 f, .int .u32 s, .int .i64 hops, .int .i64 0, .int .i64 to, .int .i64 index, .int .i64 total, .int .i64 stamp, .int .i64 value, .slice ad n cap] _ _ b1.out Tryz.underlying27 rfl infoPk ?_)
    | (refine wpList_store_row rfl 27 _ _ rfl _ #[.int .i64 kind, .int .i64 t, .int .i64 f, .int .u32 s, .int .i64 hops, .int .i64 0, .int .i64 to, .int .i64 index, .int .i64 total, .int .i64 stamp, .int .i64 value, .slice ad n cap] rfl rfl _ _ b2.out infoPk rfl HO.out ?_))
  exact bodyPost_ret (results_pk1 rfl _ _ (w.heap.size + 2) _ rfl q1.out rfl) rfl ⟨rfl, q2.out⟩
/-- Once what its kind has is put aside. -/
theorem aside_any (p : Pk) (w : World) (h : kk p.kind = true) :
    Calls Tryz.prog 67 #[pval p, .agg (kcs p.kind)] w fun e w' => e = .returned (pval (offP p)) ∧ Below w.heap.size w w' := by
  rw [kk_iff] at h
  unfold offP
  rcases h with h | h | h
  · rw [if_pos h, show kcs p.kind = kcs 1 from by rw [h]]; exact aside_1 p w
  · rw [if_neg (by omega), if_pos h, show kcs p.kind = kcs 2 from by rw [h]]; exact aside_2 p w
  · rw [if_neg (by omega), if_neg (by omega), show kcs p.kind = kcs 3 from by rw [h]]; exact aside_3 p w
theorem rprobe_any (x : Int) (w : World) :
    Calls Tryz.prog 50 #[.int .i64 x] w fun e w' => e = .returned (pval (probeP x)) ∧ Below w.heap.size w w' := by
  have HB : Hid (∀ o, Below w.heap.size w (w.alloc o)) := Lib.hid (fun o => (Below.refl _ _).alloc (Nat.le_refl _) o)
  unfold pval Pk.cells probeP
  simp only [List.length_nil]
  go_enter Tryz.func50, Tryz.ntmps50
  go_wp2_with fail
  go_returns
  exact ⟨rfl, HB.out _⟩
theorem rbeacon_any (k : Ky) (x : Int) (w : World) :
    Calls Tryz.prog 52 #[kval k, .int .i64 x] w fun e w' => e = .returned (pval (beacP k 1 x)) ∧ Below w.heap.size w w' := by
  have HB : Hid (∀ o o', Below w.heap.size w ((w.alloc o).alloc o')) := Lib.hid (fun o o' => ((Below.refl _ _).alloc (Nat.le_refl _) o).alloc (by simp) o')
  obtain ⟨t, f, s⟩ := k
  unfold kval pval Pk.cells beacP
  simp only [List.length_nil]
  go_enter Tryz.func52, Tryz.ntmps52
  go_wp2_with fail
  go_returns
  exact ⟨rfl, HB.out _ _⟩
theorem recho_any (p : Pk) (v : Int) (w : World) :
    Calls Tryz.prog 51 #[pval p, .int .i64 v] w fun e w' => e = .returned (pval (echoP p.stamp v)) ∧ Below w.heap.size w w' := by
  have HB : Hid (∀ o o', Below w.heap.size w ((w.alloc o).alloc o')) := Lib.hid (fun o o' => ((Below.refl _ _).alloc (Nat.le_refl _) o).alloc (by simp) o')
  obtain ⟨kind, ⟨t, f, s⟩, hops, no, to, index, total, stamp, value, ad, cap, body⟩ := p
  unfold pval Pk.cells echoP
  simp only [List.length_nil]
  go_enter Tryz.func51, Tryz.ntmps51
  go_wp2_with fail
  go_returns
  exact ⟨rfl, HB.out _ _⟩
end Go.Proofs.YtanfnhgaooafeaaGreatDoor.Pul
/-! PulE -/
namespace Go.Proofs.YtanfnhgaooafeaaGreatDoor.Pul
open Go.ChangeShapes Go.WideShapes Go.ChangeAt Go.RowKit Go.Deep
open Go.Proofs.YtanfnhgaooafeaaGreatDoor.Byt Go.Proofs.YtanfnhgaooafeaaGreatDoor.Key Go.Proofs.YtanfnhgaooafeaaGreatDoor.Buf Go.Proofs.YtanfnhgaooafeaaGreatDoor.Hed Go.Proofs.YtanfnhgaooafeaaGreatDoor.Dat Go.Proofs.YtanfnhgaooafeaaGreatDoor.BufM
set_option linter.unusedVariables false
set_option linter.unusedSimpArgs false
/-- A writer beside two boxes: a packet that came in, what its kind has. -/
structure P2 (w : World) (B g m bp : Nat) (r0 : Option Nat) (cs : Array Value) (bq : Nat) (ds : Array Value) (s : Int × List UInt8) (W : World) (row : Option Nat) : Prop where
  ps : PS w B g m bp r0 27 cs s W row
  box : Blk W bq 76 ds
  ne : bq ≠ g
  ner : some bq ≠ row
theorem P2.next {w : World} {B g m bp : Nat} {r0 : Option Nat} {cs : Array Value} {bq : Nat} {ds : Array Value} {s s' : Int × List UInt8} {W : World} {row : Option Nat} (h : P2 w B g m bp r0 cs bq ds s W row) {e : Ending} {w' : World} (hp : WPost W B g m row s' e w') :
    e = .returned (.tuple #[]) ∧ ∃ row', Hid (P2 w B g m bp r0 cs bq ds s' w' row') := by
  obtain ⟨rfl, row', h1, h2⟩ := hp
  have hl := h.ps.box.lt
  have hq := h.box.lt
  refine ⟨rfl, row', Lib.hid ⟨⟨h1, ?_, h.ps.ne, ?_, h.ps.step.trans h2⟩, ?_, h.ne, ?_⟩⟩
  · exact (h2.block bp hl h.ps.ne h.ps.ner).trans h.ps.box
  · rcases h2.new with e | e
    · rw [e]; exact h.ps.ner
    · intro e2; have := e bp e2.symm; omega
  · exact (h2.block bq hq h.ne h.ner).trans h.box
  · rcases h2.new with e | e
    · rw [e]; exact h.ner
    · intro e2; have := e bq e2.symm; omega
theorem P2.num {w : World} {B g m bp : Nat} {r0 : Option Nat} {cs : Array Value} {bq : Nat} {ds : Array Value} {s : Int × List UInt8} {W : World} {row : Option Nat} (h : P2 w B g m bp r0 cs bq ds s W row) (hm : s.2.length ≤ 900000) (x : Int) :
    Calls Tryz.prog 45 #[.pointer (some ⟨g, 0, none⟩), .int .u64 (IntKind.u64.wrap x)] W fun e w' => e = .returned (.tuple #[]) ∧ ∃ row', Hid (P2 w B g m bp r0 cs bq ds (wNum m s (un x)) w' row') := by
  rw [← un_val]
  exact (num_any g B m s row (un x) _ h.ps.wr (un_lt x) hm).mono fun e w' hh => h.next hh
theorem P2.fix {w : World} {B g m bp : Nat} {r0 : Option Nat} {cs : Array Value} {bq : Nat} {ds : Array Value} {s : Int × List UInt8} {W : World} {row : Option Nat} (h : P2 w B g m bp r0 cs bq ds s W row) (hm : s.2.length ≤ 900000) (x : Int) (n : Int) :
    Calls Tryz.prog 46 #[.pointer (some ⟨g, 0, none⟩), .int .u64 (IntKind.u64.wrap x), .int .i64 n] W fun e w' => e = .returned (.tuple #[]) ∧ ∃ row', Hid (P2 w B g m bp r0 cs bq ds (wFix m s (un x) n) w' row') := by
  rw [← un_val]
  exact (fixed_any g B m s row (un x) n _ h.ps.wr (un_lt x) hm).mono fun e w' hh => h.next hh
theorem P2.start {w w1 W2 : World} {B g m : Nat} {s : Int × List UInt8} {row : Option Nat} (h : WR w B g m s row) (cs ds : Array Value) (hB : Below (w.alloc (.cells cs 27)).heap.size (w.alloc (.cells cs 27)) w1) (hW : W2 = w1.alloc (.cells ds 76)) : P2 w B g m w.heap.size row cs w1.heap.size ds s W2 row := by
  obtain ⟨x1, x2⟩ := one_box w1 W2 _ _ hW
  have h0 := PS.start h 27 cs
  have hs := hB.size
  rw [World.size_alloc] at hs
  obtain ⟨v, hb, -⟩ := h.mem
  have hg := hb.lt
  exact ⟨h0.kept (hB.trans (x1.mono hB.size)), x2, by omega, fun e => by have := row_lt h e.symm; omega⟩
theorem wFix_len {m : Nat} {s : Int × List UInt8} (x : Nat) : (wFix m s x 8).2.length ≤ s.2.length + 8 := by
  unfold wFix
  rw [if_pos (by decide)]
  have := wByte_len (m := m) (s := s) (fixB x (8 : Int).toNat)
  rw [fixB_len] at this
  exact this
/-- What Put leaves with a writer. -/
def pulS (m : Nat) (s : Int × List UInt8) (p : Pk) : Int × List UInt8 := if p.kind = 1 then wFix m s (un p.stamp) 8 else if p.kind = 2 then wFix m (wFix m s (un p.stamp) 8) (un p.value) 8 else wNum m s (un p.no)
set_option maxRecDepth 100000 in
set_option maxHeartbeats 2000000 in
theorem pput_1 (p : Pk) (g B m : Nat) (s : Int × List UInt8) (row : Option Nat) (w : World) (hk : p.kind = 1) (h : WR w B g m s row) (hm : s.2.length ≤ 800000) :
    Calls Tryz.prog 32 #[.pointer (some ⟨g, 0, none⟩), pval p] w (WPost w B g m row (pulS m s p)) := by
  have CP := Lib.hid (fun W => parts_any 1 W)
  have HP := Lib.hid (fun w1 W2 (hB : Below (w.alloc (.cells p.cells 27)).heap.size (w.alloc (.cells p.cells 27)) w1) (hW : W2 = w1.alloc (.cells #[.bool true, .bool false, .bool false] 76)) => P2.start h p.cells #[.bool true, .bool false, .bool false] hB hW)
  have HC : Hid (∀ s' bq W row', P2 w B g m w.heap.size row p.cells bq #[.bool true, .bool false, .bool false] s' W row' → _ ∧ (_ ∧ _ ∧ _)) := Lib.hid (fun s' bq W row' h => ⟨blk_cells h.ps.box, h.box.cell 0, h.box.cell 1, h.box.cell 2⟩)
  have HE : Hid (∀ s' bq W row', P2 w B g m w.heap.size row p.cells bq #[.bool true, .bool false, .bool false] s' W row' → WPost w B g m row s' (.returned (.tuple #[])) W) := Lib.hid (fun s' bq W row' h => h.ps.post)
  have hS : pulS m s p = wFix m s (un p.stamp) 8 := by
    unfold pulS
    rw [if_pos hk]
  rw [hS]
  clear hS
  have C0 : Hid (∀ bq W row', P2 w B g m w.heap.size row p.cells bq #[.bool true, .bool false, .bool false] s W row' → Calls Tryz.prog 46 #[.pointer (some ⟨g, 0, none⟩), .int .u64 (IntKind.u64.wrap p.stamp), .int .i64 8] W fun e w' => e = .returned (.tuple #[]) ∧ ∃ row2, Hid (P2 w B g m w.heap.size row p.cells bq #[.bool true, .bool false, .bool false] (wFix m s (un p.stamp) 8) w' row2)) := Lib.hid (fun bq W row' h => h.fix (by omega) _ _)
  generalize wFix m s (un p.stamp) 8 = sF at *
  unfold kcs pcs at CP
  simp only [Int.reduceBEq, Bool.or_false, Bool.false_or, Bool.or_self, Bool.or_true, Bool.true_or] at CP
  have HE2 := Lib.hid (fun bq W row' h => HE.out sF bq W row' h)
  clear HE
  generalize WPost w B g m row sF = Fin at *
  obtain ⟨kind, ⟨t, f, q⟩, hops, no, to, index, total, stamp, value, ad, cap, body⟩ := p
  simp only at hk
  subst hk
  obtain ⟨wb, hwb⟩ : ∃ wb, Hid (wb = w.alloc (.cells (Pk.cells ⟨1, (t, f, q), hops, no, to, index, total, stamp, value, ad, cap, body⟩) 27)) := ⟨_, Lib.hid rfl⟩
  have c := pk_cells w wb _ hwb.out wb (Below.refl _ _)
  rw [← hwb.out] at HP
  unfold pval
  unfold Pk.cells at hwb
  unfold Pk.cells
  simp only [List.getElem?_toArray, List.getElem?_cons_succ, List.getElem?_cons_zero] at HC hwb c C0 ⊢
  obtain ⟨n, hn⟩ : ∃ n, body.length = n := ⟨_, rfl⟩
  simp only [hn] at hwb c HC ⊢
  clear hm h 
  go_enter Tryz.func32, Tryz.ntmps32
  go_upto_region 1 with fail
  rw [← hwb.out]
  clear hwb
  obtain ⟨c0, c1, c2, c3, c4, c5, c6, c7, c8, c9, c10, c11⟩ := c
  go_wp2_with fail
  refine (CP.out _).mono ?_; rintro e w1 ⟨rfl, hB1⟩
  have HP1 := Lib.hid (fun W2 hW => HP.out w1 W2 hB1 hW)
  clear hB1 c0 c1 c2 c3 c4 c5 c6 c7 c8 c9 c10 c11 CP HP
  go_upto_region 2 with fail
  obtain ⟨W2, hW2⟩ : ∃ W2, W2 = w1.alloc (.cells #[.bool true, .bool false, .bool false] 76) := ⟨_, rfl⟩
  have H2 := Lib.hid (HP1.out W2 hW2)
  rw [← hW2]
  clear hW2 HP1
  obtain ⟨⟨c0, c1, c2, c3, c4, c5, c6, c7, c8, c9, c10, c11⟩, p0, p1, p2⟩ := HC.out _ _ _ _ H2.out
  go_wp2_with fail
  refine (C0.out _ _ _ H2.out).mono ?_; rintro e x0 ⟨rfl, row0, H3⟩
  clear c0 c1 c2 c3 c4 c5 c6 c7 c8 c9 c10 c11 p0 p1 p2 C0 H2
  obtain ⟨⟨c0, c1, c2, c3, c4, c5, c6, c7, c8, c9, c10, c11⟩, p0, p1, p2⟩ := HC.out _ _ _ _ H3.out
  have hF := Lib.hid (HE2.out _ _ _ H3.out)
  clear HE2 HC H3
  go_wp2_with fail
  go_returns
  exact hF.out
set_option maxRecDepth 100000 in
set_option maxHeartbeats 2000000 in
theorem pput_2 (p : Pk) (g B m : Nat) (s : Int × List UInt8) (row : Option Nat) (w : World) (hk : p.kind = 2) (h : WR w B g m s row) (hm : s.2.length ≤ 800000) :
    Calls Tryz.prog 32 #[.pointer (some ⟨g, 0, none⟩), pval p] w (WPost w B g m row (pulS m s p)) := by
  have CP := Lib.hid (fun W => parts_any 2 W)
  have HP := Lib.hid (fun w1 W2 (hB : Below (w.alloc (.cells p.cells 27)).heap.size (w.alloc (.cells p.cells 27)) w1) (hW : W2 = w1.alloc (.cells #[.bool true, .bool true, .bool false] 76)) => P2.start h p.cells #[.bool true, .bool true, .bool false] hB hW)
  have HC : Hid (∀ s' bq W row', P2 w B g m w.heap.size row p.cells bq #[.bool true, .bool true, .bool false] s' W row' → _ ∧ (_ ∧ _ ∧ _)) := Lib.hid (fun s' bq W row' h => ⟨blk_cells h.ps.box, h.box.cell 0, h.box.cell 1, h.box.cell 2⟩)
  have HE : Hid (∀ s' bq W row', P2 w B g m w.heap.size row p.cells bq #[.bool true, .bool true, .bool false] s' W row' → WPost w B g m row s' (.returned (.tuple #[])) W) := Lib.hid (fun s' bq W row' h => h.ps.post)
  have hS : pulS m s p = wFix m (wFix m s (un p.stamp) 8) (un p.value) 8 := by
    unfold pulS
    rw [if_neg (by omega), if_pos hk]
  rw [hS]
  clear hS
  have C0 : Hid (∀ bq W row', P2 w B g m w.heap.size row p.cells bq #[.bool true, .bool true, .bool false] s W row' → Calls Tryz.prog 46 #[.pointer (some ⟨g, 0, none⟩), .int .u64 (IntKind.u64.wrap p.stamp), .int .i64 8] W fun e w' => e = .returned (.tuple #[]) ∧ ∃ row2, Hid (P2 w B g m w.heap.size row p.cells bq #[.bool true, .bool true, .bool false] (wFix m s (un p.stamp) 8) w' row2)) := Lib.hid (fun bq W row' h => h.fix (by omega) _ _)
  have hm2 : (wFix m s (un p.stamp) 8).2.length ≤ 800008 := by have := wFix_len (m := m) (s := s) (un p.stamp); omega
  generalize wFix m s (un p.stamp) 8 = s1 at *
  have C1 : Hid (∀ bq W row', P2 w B g m w.heap.size row p.cells bq #[.bool true, .bool true, .bool false] s1 W row' → Calls Tryz.prog 46 #[.pointer (some ⟨g, 0, none⟩), .int .u64 (IntKind.u64.wrap p.value), .int .i64 8] W fun e w' => e = .returned (.tuple #[]) ∧ ∃ row2, Hid (P2 w B g m w.heap.size row p.cells bq #[.bool true, .bool true, .bool false] (wFix m s1 (un p.value) 8) w' row2)) := Lib.hid (fun bq W row' h => h.fix (by omega) _ _)
  generalize wFix m s1 (un p.value) 8 = sF at *
  unfold kcs pcs at CP
  simp only [Int.reduceBEq, Bool.or_false, Bool.false_or, Bool.or_self, Bool.or_true, Bool.true_or] at CP
  have HE2 := Lib.hid (fun bq W row' h => HE.out sF bq W row' h)
  clear HE
  generalize WPost w B g m row sF = Fin at *
  obtain ⟨kind, ⟨t, f, q⟩, hops, no, to, index, total, stamp, value, ad, cap, body⟩ := p
  simp only at hk
  subst hk
  obtain ⟨wb, hwb⟩ : ∃ wb, Hid (wb = w.alloc (.cells (Pk.cells ⟨2, (t, f, q), hops, no, to, index, total, stamp, value, ad, cap, body⟩) 27)) := ⟨_, Lib.hid rfl⟩
  have c := pk_cells w wb _ hwb.out wb (Below.refl _ _)
  rw [← hwb.out] at HP
  unfold pval
  unfold Pk.cells at hwb
  unfold Pk.cells
  simp only [List.getElem?_toArray, List.getElem?_cons_succ, List.getElem?_cons_zero] at HC hwb c C0 C1 ⊢
  obtain ⟨n, hn⟩ : ∃ n, body.length = n := ⟨_, rfl⟩
  simp only [hn] at hwb c HC ⊢
  clear hm h hm2
  go_enter Tryz.func32, Tryz.ntmps32
  go_upto_region 1 with fail
  rw [← hwb.out]
  clear hwb
  obtain ⟨c0, c1, c2, c3, c4, c5, c6, c7, c8, c9, c10, c11⟩ := c
  go_wp2_with fail
  refine (CP.out _).mono ?_; rintro e w1 ⟨rfl, hB1⟩
  have HP1 := Lib.hid (fun W2 hW => HP.out w1 W2 hB1 hW)
  clear hB1 c0 c1 c2 c3 c4 c5 c6 c7 c8 c9 c10 c11 CP HP
  go_upto_region 2 with fail
  obtain ⟨W2, hW2⟩ : ∃ W2, W2 = w1.alloc (.cells #[.bool true, .bool true, .bool false] 76) := ⟨_, rfl⟩
  have H2 := Lib.hid (HP1.out W2 hW2)
  rw [← hW2]
  clear hW2 HP1
  obtain ⟨⟨c0, c1, c2, c3, c4, c5, c6, c7, c8, c9, c10, c11⟩, p0, p1, p2⟩ := HC.out _ _ _ _ H2.out
  go_wp2_with fail
  refine (C0.out _ _ _ H2.out).mono ?_; rintro e x0 ⟨rfl, row0, H3⟩
  clear c0 c1 c2 c3 c4 c5 c6 c7 c8 c9 c10 c11 p0 p1 p2 C0 H2
  obtain ⟨⟨c0, c1, c2, c3, c4, c5, c6, c7, c8, c9, c10, c11⟩, p0, p1, p2⟩ := HC.out _ _ _ _ H3.out
  go_wp2_with fail
  refine (C1.out _ _ _ H3.out).mono ?_; rintro e x1 ⟨rfl, row1, H4⟩
  clear c0 c1 c2 c3 c4 c5 c6 c7 c8 c9 c10 c11 p0 p1 p2 C1 H3
  obtain ⟨⟨c0, c1, c2, c3, c4, c5, c6, c7, c8, c9, c10, c11⟩, p0, p1, p2⟩ := HC.out _ _ _ _ H4.out
  have hF := Lib.hid (HE2.out _ _ _ H4.out)
  clear HE2 HC H4
  go_wp2_with fail
  go_returns
  exact hF.out
set_option maxRecDepth 100000 in
set_option maxHeartbeats 2000000 in
theorem pput_3 (p : Pk) (g B m : Nat) (s : Int × List UInt8) (row : Option Nat) (w : World) (hk : p.kind = 3) (h : WR w B g m s row) (hm : s.2.length ≤ 800000) :
    Calls Tryz.prog 32 #[.pointer (some ⟨g, 0, none⟩), pval p] w (WPost w B g m row (pulS m s p)) := by
  have CP := Lib.hid (fun W => parts_any 3 W)
  have HP := Lib.hid (fun w1 W2 (hB : Below (w.alloc (.cells p.cells 27)).heap.size (w.alloc (.cells p.cells 27)) w1) (hW : W2 = w1.alloc (.cells #[.bool false, .bool false, .bool true] 76)) => P2.start h p.cells #[.bool false, .bool false, .bool true] hB hW)
  have HC : Hid (∀ s' bq W row', P2 w B g m w.heap.size row p.cells bq #[.bool false, .bool false, .bool true] s' W row' → _ ∧ (_ ∧ _ ∧ _)) := Lib.hid (fun s' bq W row' h => ⟨blk_cells h.ps.box, h.box.cell 0, h.box.cell 1, h.box.cell 2⟩)
  have HE : Hid (∀ s' bq W row', P2 w B g m w.heap.size row p.cells bq #[.bool false, .bool false, .bool true] s' W row' → WPost w B g m row s' (.returned (.tuple #[])) W) := Lib.hid (fun s' bq W row' h => h.ps.post)
  have hS : pulS m s p = wNum m s (un p.no) := by
    unfold pulS
    rw [if_neg (by omega), if_neg (by omega)]
  rw [hS]
  clear hS
  have C0 : Hid (∀ bq W row', P2 w B g m w.heap.size row p.cells bq #[.bool false, .bool false, .bool true] s W row' → Calls Tryz.prog 45 #[.pointer (some ⟨g, 0, none⟩), .int .u64 (IntKind.u64.wrap p.no)] W fun e w' => e = .returned (.tuple #[]) ∧ ∃ row2, Hid (P2 w B g m w.heap.size row p.cells bq #[.bool false, .bool false, .bool true] (wNum m s (un p.no)) w' row2)) := Lib.hid (fun bq W row' h => h.num (by omega) _)
  generalize wNum m s (un p.no) = sF at *
  unfold kcs pcs at CP
  simp only [Int.reduceBEq, Bool.or_false, Bool.false_or, Bool.or_self, Bool.or_true, Bool.true_or] at CP
  have HE2 := Lib.hid (fun bq W row' h => HE.out sF bq W row' h)
  clear HE
  generalize WPost w B g m row sF = Fin at *
  obtain ⟨kind, ⟨t, f, q⟩, hops, no, to, index, total, stamp, value, ad, cap, body⟩ := p
  simp only at hk
  subst hk
  obtain ⟨wb, hwb⟩ : ∃ wb, Hid (wb = w.alloc (.cells (Pk.cells ⟨3, (t, f, q), hops, no, to, index, total, stamp, value, ad, cap, body⟩) 27)) := ⟨_, Lib.hid rfl⟩
  have c := pk_cells w wb _ hwb.out wb (Below.refl _ _)
  rw [← hwb.out] at HP
  unfold pval
  unfold Pk.cells at hwb
  unfold Pk.cells
  simp only [List.getElem?_toArray, List.getElem?_cons_succ, List.getElem?_cons_zero] at HC hwb c C0 ⊢
  obtain ⟨n, hn⟩ : ∃ n, body.length = n := ⟨_, rfl⟩
  simp only [hn] at hwb c HC ⊢
  clear hm h 
  go_enter Tryz.func32, Tryz.ntmps32
  go_upto_region 1 with fail
  rw [← hwb.out]
  clear hwb
  obtain ⟨c0, c1, c2, c3, c4, c5, c6, c7, c8, c9, c10, c11⟩ := c
  go_wp2_with fail
  refine (CP.out _).mono ?_; rintro e w1 ⟨rfl, hB1⟩
  have HP1 := Lib.hid (fun W2 hW => HP.out w1 W2 hB1 hW)
  clear hB1 c0 c1 c2 c3 c4 c5 c6 c7 c8 c9 c10 c11 CP HP
  go_upto_region 2 with fail
  obtain ⟨W2, hW2⟩ : ∃ W2, W2 = w1.alloc (.cells #[.bool false, .bool false, .bool true] 76) := ⟨_, rfl⟩
  have H2 := Lib.hid (HP1.out W2 hW2)
  rw [← hW2]
  clear hW2 HP1
  obtain ⟨⟨c0, c1, c2, c3, c4, c5, c6, c7, c8, c9, c10, c11⟩, p0, p1, p2⟩ := HC.out _ _ _ _ H2.out
  go_wp2_with fail
  refine (C0.out _ _ _ H2.out).mono ?_; rintro e x0 ⟨rfl, row0, H3⟩
  clear c0 c1 c2 c3 c4 c5 c6 c7 c8 c9 c10 c11 p0 p1 p2 C0 H2
  obtain ⟨⟨c0, c1, c2, c3, c4, c5, c6, c7, c8, c9, c10, c11⟩, p0, p1, p2⟩ := HC.out _ _ _ _ H3.out
  have hF := Lib.hid (HE2.out _ _ _ H3.out)
  clear HE2 HC H3
  go_wp2_with fail
  go_returns
  exact hF.out
theorem pput_any (p : Pk) (g B m : Nat) (s : Int × List UInt8) (row : Option Nat) (w : World) (hk : kk p.kind = true) (h : WR w B g m s row) (hm : s.2.length ≤ 800000) :
    Calls Tryz.prog 32 #[.pointer (some ⟨g, 0, none⟩), pval p] w (WPost w B g m row (pulS m s p)) := by
  rw [kk_iff] at hk
  rcases hk with hk | hk | hk
  · exact pput_1 p g B m s row w hk h hm
  · exact pput_2 p g B m s row w hk h hm
  · exact pput_3 p g B m s row w hk h hm
end Go.Proofs.YtanfnhgaooafeaaGreatDoor.Pul
/-! PulF -/
namespace Go.Proofs.YtanfnhgaooafeaaGreatDoor.Pul
open Go.ChangeShapes Go.WideShapes Go.ChangeAt Go.RowKit Go.Deep
open Go.Proofs.YtanfnhgaooafeaaGreatDoor.Byt Go.Proofs.YtanfnhgaooafeaaGreatDoor.Key Go.Proofs.YtanfnhgaooafeaaGreatDoor.Buf Go.Proofs.YtanfnhgaooafeaaGreatDoor.Hed Go.Proofs.YtanfnhgaooafeaaGreatDoor.Dat Go.Proofs.YtanfnhgaooafeaaGreatDoor.BufM
set_option linter.unusedVariables false
set_option linter.unusedSimpArgs false
/-- A reader beside three boxes. -/
structure F3 (w : World) (g : Nat) (cs ds : Array Value) (s : Int × List UInt8) (W : World) : Prop where
  rr : RR W g s
  box : Blk W w.heap.size 27 cs
  pts : Blk W (w.heap.size + 1) 76 ds
  res : Blk W (w.heap.size + 2) 27 (Pk.cells zero)
  lt : g < w.heap.size
  step : RStep w W g
theorem F3.next {w W : World} {g : Nat} {cs ds : Array Value} {s s' : Int × List UInt8} (h : F3 w g cs ds s W) {v : Value} {e : Ending} {w' : World} (hp : RPost W g s' v e w') : e = .returned v ∧ Hid (F3 w g cs ds s' w') := by
  obtain ⟨rfl, h1, h2⟩ := hp
  have := h.lt
  exact ⟨rfl, Lib.hid ⟨h1, (h2.block _ h.lt h.box.lt).trans h.box, (h2.block _ (by omega) h.pts.lt).trans h.pts, (h2.block _ (by omega) h.res.lt).trans h.res, h.lt, h.step.trans h2⟩⟩
theorem F3.put {w W : World} {g : Nat} {cs ds : Array Value} {s : Int × List UInt8} (h : F3 w g cs ds s W) (i : Nat) (u : Value) : F3 w g (cs.setIfInBounds i u) ds s (W.setCell ⟨w.heap.size, i, none⟩ u) := by
  have hlt := h.lt
  refine ⟨h.rr.behind fun b hb => heap_setCell_other _ _ _ _ (by simp only; omega), h.box.put i u, h.pts.far (p := ⟨w.heap.size, i, none⟩) (by simp) u, h.res.far (p := ⟨w.heap.size, i, none⟩) (by simp) u, h.lt, ⟨h.step.below.setCell (p := ⟨w.heap.size, i, none⟩) (Nat.le_of_lt hlt) _, fun k h1 h2 => ?_⟩⟩
  exact (heap_setCell_other _ _ _ _ (by simp only; omega)).trans (h.step.block k h1 h2)
theorem F3.fin {w W : World} {g : Nat} {cs ds : Array Value} {s : Int × List UInt8} (h : F3 w g cs ds s W) (es : Array Value) (hs : (Pk.cells zero).size = es.size) : Blk (W.setRow (w.heap.size + 2) es) (w.heap.size + 2) 27 es ∧ RPost w g s (.agg es) (.returned (.agg es)) (W.setRow (w.heap.size + 2) es) := by
  have hlt := h.lt
  refine ⟨Blk.row h.res es hs, rfl, h.rr.behind fun b hb => setRow_other _ _ _ _ (by omega), ⟨below_setRow h.step.below (by omega) _, fun k h1 h2 => ?_⟩⟩
  exact (setRow_other _ _ _ _ (by omega)).trans (h.step.block k h1 h2)
theorem F3.start {w W : World} {g : Nat} {s : Int × List UInt8} (h : RR w g s) (cs ds : Array Value) (hW : W = ((w.alloc (.cells cs 27)).alloc (.cells ds 76)).alloc (.cells (Pk.cells zero) 27)) : F3 w g cs ds s W := by
  obtain ⟨hB, h1, h2, h3⟩ := boxes3 w W _ _ _ _ _ _ hW
  exact ⟨h.kept hB, h1, h2, h3, h.lt, RStep.of_below hB (Nat.le_of_lt h.lt)⟩
/-- A number of a reader's as one with a sign. -/
def sg (x : Nat) : Int := IntKind.i64.wrap (x : Int)
/-- The reader behind it. -/
def filS (k : Int) (s : Int × List UInt8) : Int × List UInt8 := if k = 1 then fixS s 8 else if k = 2 then fixS (fixS s 8) 8 else numS s
/-- The packet with what was read. -/
def filP (p : Pk) (s : Int × List UInt8) : Pk := if p.kind = 1 then { p with stamp := sg (getF s.2 8).1 } else if p.kind = 2 then { p with stamp := sg (getF s.2 8).1, value := sg (getF (fixS s 8).2 8).1 } else { p with no := sg (getN s.2).1 }
set_option maxRecDepth 100000 in
set_option maxHeartbeats 2000000 in
theorem fill_1 (p : Pk) (g : Nat) (s : Int × List UInt8) (w : World) (hk : p.kind = 1) (h : RR w g s) :
    Calls Tryz.prog 68 #[.pointer (some ⟨g, 0, none⟩), pval p, .agg #[.bool true, .bool false, .bool false]] w (RPost w g (filS 1 s) (pval (filP p s))) := by
  obtain ⟨wb, hwb⟩ : ∃ wb, Hid (wb = ((w.alloc (.cells p.cells 27)).alloc (.cells #[.bool true, .bool false, .bool false] 76)).alloc (.cells (Pk.cells zero) 27)) := ⟨_, Lib.hid rfl⟩
  have H0 := Lib.hid (F3.start h _ _ hwb.out)
  have HO := Lib.hid (pkP_one (filP p s))
  have hS : filS 1 s = fixS s 8 := by
    unfold filS
    rw [if_pos rfl]
  have hP : filP p s = { p with stamp := sg (getF s.2 8).1 } := by
    unfold filP
    rw [if_pos hk]
  rw [hP] at HO ⊢
  rw [hS]
  clear hS hP
  have C0 : Hid (∀ W, RR W g s → Calls Tryz.prog 93 #[.pointer (some ⟨g, 0, none⟩), .int .i64 8] W (RPost W g (fixS s 8) (.int .u64 (((getF s.2 8).1 : Nat) : Int)))) := Lib.hid (fun W h => rfixed_any g s 8 W h)
  obtain ⟨x0, hx0⟩ : ∃ x, (getF s.2 8).1 = x := ⟨_, rfl⟩
  rw [hx0] at HO C0 ⊢
  clear hx0
  have hv0 : Hid (IntKind.i64.wrap (x0 : Int) = sg x0) := Lib.hid rfl
  generalize sg x0 = v0 at *
  generalize fixS s 8 = s0 at *
  obtain ⟨kind, ⟨t, f, q⟩, hops, no, to, index, total, stamp, value, ad, cap, body⟩ := p
  simp only at hk
  subst hk
  unfold zero Pk.cells at hwb
  unfold Pk.cells at HO H0
  unfold pval Pk.cells
  simp only [List.length_nil] at hwb HO H0 ⊢
  obtain ⟨n, hn⟩ : ∃ n, body.length = n := ⟨_, rfl⟩
  simp only [hn] at hwb HO H0 ⊢
  clear hn h
  have p0 := H0.out.pts.cell 0
  have p1 := H0.out.pts.cell 1
  have p2 := H0.out.pts.cell 2
  simp only [List.getElem?_toArray, List.getElem?_cons_succ, List.getElem?_cons_zero] at p0 p1 p2
  go_enter Tryz.func68, Tryz.ntmps68
  go_upto_region 1 with fail
  rw [← hwb.out]
  clear hwb
  go_wp2_with fail
  refine (C0.out _ H0.out.rr).mono ?_; intro e y0 hp
  obtain ⟨rfl, G0⟩ := H0.out.next hp
  have c := G0.out.box.cell 9
  have f := G0.out.box.free 9
  simp only [List.getElem?_toArray, List.getElem?_cons_succ, List.getElem?_cons_zero] at c
  have H1 := Lib.hid (G0.out.put 9 (.int .i64 v0))
  simp only [List.setIfInBounds_toArray, List.set_cons_zero, List.set_cons_succ] at H1
  clear hp p0 p1 p2 H0 C0
  have hw0 := hv0.out
  go_upto_region 3 with fail
  clear hw0
  obtain ⟨z0, ez0⟩ : ∃ z, y0.setCell ⟨w.heap.size, 9, none⟩ (.int .i64 v0) = z := ⟨_, rfl⟩
  try rw [hv0.out]
  rw [ez0] at H1 ⊢
  clear c f ez0 G0 hv0
  have p0 := H1.out.pts.cell 0
  have p1 := H1.out.pts.cell 1
  have p2 := H1.out.pts.cell 2
  simp only [List.getElem?_toArray, List.getElem?_cons_succ, List.getElem?_cons_zero] at p0 p1 p2
  have q := H1.out.fin #[.int .i64 1, .int .i64 t, .int .i64 f, .int .u32 q, .int .i64 hops, .int .i64 no, .int .i64 to, .int .i64 index, .int .i64 total, .int .i64 v0, .int .i64 value, .slice ad n cap] rfl
  have b1 := Lib.hid H1.out.box
  have b2 := Lib.hid H1.out.res
  have q1 := Lib.hid q.1
  have q2 := Lib.hid q.2
  unfold zero Pk.cells at b2
  simp only [List.length_nil] at b2
  clear q H1
  go_wp2_with (first
    | (refine wpList_load_row rfl 27 _ rfl _ rfl _ #[.int .i64 1, .int .i64 t, .int .i64 f, .int .u32 q, .int .i64 hops, .int .i64 no, .int .i64 to, .int .i64 index, .int .i64 total, .int .i64 v0, .int .i64 value, .slice ad n cap] _ _ b1.out Tryz.underlying27 rfl infoPk ?_)
    | (refine wpList_store_row rfl 27 _ _ rfl _ #[.int .i64 1, .int .i64 t, .int .i64 f, .int .u32 q, .int .i64 hops, .int .i64 no, .int .i64 to, .int .i64 index, .int .i64 total, .int .i64 v0, .int .i64 value, .slice ad n cap] rfl rfl _ _ b2.out infoPk rfl HO.out ?_))
  exact bodyPost_ret (results_pk1 rfl _ _ (w.heap.size + 2) _ rfl q1.out rfl) rfl q2.out
set_option maxRecDepth 100000 in
set_option maxHeartbeats 2000000 in
theorem fill_2 (p : Pk) (g : Nat) (s : Int × List UInt8) (w : World) (hk : p.kind = 2) (h : RR w g s) :
    Calls Tryz.prog 68 #[.pointer (some ⟨g, 0, none⟩), pval p, .agg #[.bool true, .bool true, .bool false]] w (RPost w g (filS 2 s) (pval (filP p s))) := by
  obtain ⟨wb, hwb⟩ : ∃ wb, Hid (wb = ((w.alloc (.cells p.cells 27)).alloc (.cells #[.bool true, .bool true, .bool false] 76)).alloc (.cells (Pk.cells zero) 27)) := ⟨_, Lib.hid rfl⟩
  have H0 := Lib.hid (F3.start h _ _ hwb.out)
  have HO := Lib.hid (pkP_one (filP p s))
  have hS : filS 2 s = fixS (fixS s 8) 8 := by
    unfold filS
    rw [if_neg (by omega), if_pos rfl]
  have hP : filP p s = { p with stamp := sg (getF s.2 8).1, value := sg (getF (fixS s 8).2 8).1 } := by
    unfold filP
    rw [if_neg (by omega), if_pos hk]
  rw [hP] at HO ⊢
  rw [hS]
  clear hS hP
  have C0 : Hid (∀ W, RR W g s → Calls Tryz.prog 93 #[.pointer (some ⟨g, 0, none⟩), .int .i64 8] W (RPost W g (fixS s 8) (.int .u64 (((getF s.2 8).1 : Nat) : Int)))) := Lib.hid (fun W h => rfixed_any g s 8 W h)
  obtain ⟨x0, hx0⟩ : ∃ x, (getF s.2 8).1 = x := ⟨_, rfl⟩
  rw [hx0] at HO C0 ⊢
  clear hx0
  have hv0 : Hid (IntKind.i64.wrap (x0 : Int) = sg x0) := Lib.hid rfl
  generalize sg x0 = v0 at *
  generalize fixS s 8 = s0 at *
  have C1 : Hid (∀ W, RR W g s0 → Calls Tryz.prog 93 #[.pointer (some ⟨g, 0, none⟩), .int .i64 8] W (RPost W g (fixS s0 8) (.int .u64 (((getF s0.2 8).1 : Nat) : Int)))) := Lib.hid (fun W h => rfixed_any g s0 8 W h)
  obtain ⟨x1, hx1⟩ : ∃ x, (getF s0.2 8).1 = x := ⟨_, rfl⟩
  rw [hx1] at HO C1 ⊢
  clear hx1
  have hv1 : Hid (IntKind.i64.wrap (x1 : Int) = sg x1) := Lib.hid rfl
  generalize sg x1 = v1 at *
  generalize fixS s0 8 = s1 at *
  obtain ⟨kind, ⟨t, f, q⟩, hops, no, to, index, total, stamp, value, ad, cap, body⟩ := p
  simp only at hk
  subst hk
  unfold zero Pk.cells at hwb
  unfold Pk.cells at HO H0
  unfold pval Pk.cells
  simp only [List.length_nil] at hwb HO H0 ⊢
  obtain ⟨n, hn⟩ : ∃ n, body.length = n := ⟨_, rfl⟩
  simp only [hn] at hwb HO H0 ⊢
  clear hn h
  have p0 := H0.out.pts.cell 0
  have p1 := H0.out.pts.cell 1
  have p2 := H0.out.pts.cell 2
  simp only [List.getElem?_toArray, List.getElem?_cons_succ, List.getElem?_cons_zero] at p0 p1 p2
  go_enter Tryz.func68, Tryz.ntmps68
  go_upto_region 1 with fail
  rw [← hwb.out]
  clear hwb
  go_wp2_with fail
  refine (C0.out _ H0.out.rr).mono ?_; intro e y0 hp
  obtain ⟨rfl, G0⟩ := H0.out.next hp
  have c := G0.out.box.cell 9
  have f := G0.out.box.free 9
  simp only [List.getElem?_toArray, List.getElem?_cons_succ, List.getElem?_cons_zero] at c
  have H1 := Lib.hid (G0.out.put 9 (.int .i64 v0))
  simp only [List.setIfInBounds_toArray, List.set_cons_zero, List.set_cons_succ] at H1
  clear hp p0 p1 p2 H0 C0
  have hw0 := hv0.out
  go_upto_region 3 with fail
  clear hw0
  obtain ⟨z0, ez0⟩ : ∃ z, y0.setCell ⟨w.heap.size, 9, none⟩ (.int .i64 v0) = z := ⟨_, rfl⟩
  try rw [hv0.out]
  rw [ez0] at H1 ⊢
  clear c f ez0 G0 hv0
  have p0 := H1.out.pts.cell 0
  have p1 := H1.out.pts.cell 1
  have p2 := H1.out.pts.cell 2
  simp only [List.getElem?_toArray, List.getElem?_cons_succ, List.getElem?_cons_zero] at p0 p1 p2
  go_wp2_with fail
  refine (C1.out _ H1.out.rr).mono ?_; intro e y1 hp
  obtain ⟨rfl, G1⟩ := H1.out.next hp
  have c := G1.out.box.cell 10
  have f := G1.out.box.free 10
  simp only [List.getElem?_toArray, List.getElem?_cons_succ, List.getElem?_cons_zero] at c
  have H2 := Lib.hid (G1.out.put 10 (.int .i64 v1))
  simp only [List.setIfInBounds_toArray, List.set_cons_zero, List.set_cons_succ] at H2
  clear hp p0 p1 p2 H1 C1
  have hw1 := hv1.out
  go_upto_region 5 with fail
  clear hw1
  obtain ⟨z1, ez1⟩ : ∃ z, y1.setCell ⟨w.heap.size, 10, none⟩ (.int .i64 v1) = z := ⟨_, rfl⟩
  try rw [hv1.out]
  rw [ez1] at H2 ⊢
  clear c f ez1 G1 hv1
  have p0 := H2.out.pts.cell 0
  have p1 := H2.out.pts.cell 1
  have p2 := H2.out.pts.cell 2
  simp only [List.getElem?_toArray, List.getElem?_cons_succ, List.getElem?_cons_zero] at p0 p1 p2
  have q := H2.out.fin #[.int .i64 2, .int .i64 t, .int .i64 f, .int .u32 q, .int .i64 hops, .int .i64 no, .int .i64 to, .int .i64 index, .int .i64 total, .int .i64 v0, .int .i64 v1, .slice ad n cap] rfl
  have b1 := Lib.hid H2.out.box
  have b2 := Lib.hid H2.out.res
  have q1 := Lib.hid q.1
  have q2 := Lib.hid q.2
  unfold zero Pk.cells at b2
  simp only [List.length_nil] at b2
  clear q H2
  go_wp2_with (first
    | (refine wpList_load_row rfl 27 _ rfl _ rfl _ #[.int .i64 2, .int .i64 t, .int .i64 f, .int .u32 q, .int .i64 hops, .int .i64 no, .int .i64 to, .int .i64 index, .int .i64 total, .int .i64 v0, .int .i64 v1, .slice ad n cap] _ _ b1.out Tryz.underlying27 rfl infoPk ?_)
    | (refine wpList_store_row rfl 27 _ _ rfl _ #[.int .i64 2, .int .i64 t, .int .i64 f, .int .u32 q, .int .i64 hops, .int .i64 no, .int .i64 to, .int .i64 index, .int .i64 total, .int .i64 v0, .int .i64 v1, .slice ad n cap] rfl rfl _ _ b2.out infoPk rfl HO.out ?_))
  exact bodyPost_ret (results_pk1 rfl _ _ (w.heap.size + 2) _ rfl q1.out rfl) rfl q2.out
set_option maxRecDepth 100000 in
set_option maxHeartbeats 2000000 in
theorem fill_3 (p : Pk) (g : Nat) (s : Int × List UInt8) (w : World) (hk : p.kind = 3) (h : RR w g s) :
    Calls Tryz.prog 68 #[.pointer (some ⟨g, 0, none⟩), pval p, .agg #[.bool false, .bool false, .bool true]] w (RPost w g (filS 3 s) (pval (filP p s))) := by
  obtain ⟨wb, hwb⟩ : ∃ wb, Hid (wb = ((w.alloc (.cells p.cells 27)).alloc (.cells #[.bool false, .bool false, .bool true] 76)).alloc (.cells (Pk.cells zero) 27)) := ⟨_, Lib.hid rfl⟩
  have H0 := Lib.hid (F3.start h _ _ hwb.out)
  have HO := Lib.hid (pkP_one (filP p s))
  have hS : filS 3 s = numS s := by
    unfold filS
    rw [if_neg (by omega), if_neg (by omega)]
  have hP : filP p s = { p with no := sg (getN s.2).1 } := by
    unfold filP
    rw [if_neg (by omega), if_neg (by omega)]
  rw [hP] at HO ⊢
  rw [hS]
  clear hS hP
  have C0 : Hid (∀ W, RR W g s → Calls Tryz.prog 75 #[.pointer (some ⟨g, 0, none⟩)] W (RPost W g (numS s) (.int .u64 (((getN s.2).1 : Nat) : Int)))) := Lib.hid (fun W h => rnum_any g s W h)
  obtain ⟨x0, hx0⟩ : ∃ x, (getN s.2).1 = x := ⟨_, rfl⟩
  rw [hx0] at HO C0 ⊢
  clear hx0
  have hv0 : Hid (IntKind.i64.wrap (x0 : Int) = sg x0) := Lib.hid rfl
  generalize sg x0 = v0 at *
  generalize numS s = s0 at *
  obtain ⟨kind, ⟨t, f, q⟩, hops, no, to, index, total, stamp, value, ad, cap, body⟩ := p
  simp only at hk
  subst hk
  unfold zero Pk.cells at hwb
  unfold Pk.cells at HO H0
  unfold pval Pk.cells
  simp only [List.length_nil] at hwb HO H0 ⊢
  obtain ⟨n, hn⟩ : ∃ n, body.length = n := ⟨_, rfl⟩
  simp only [hn] at hwb HO H0 ⊢
  clear hn h
  have p0 := H0.out.pts.cell 0
  have p1 := H0.out.pts.cell 1
  have p2 := H0.out.pts.cell 2
  simp only [List.getElem?_toArray, List.getElem?_cons_succ, List.getElem?_cons_zero] at p0 p1 p2
  go_enter Tryz.func68, Tryz.ntmps68
  go_upto_region 1 with fail
  rw [← hwb.out]
  clear hwb
  go_wp2_with fail
  refine (C0.out _ H0.out.rr).mono ?_; intro e y0 hp
  obtain ⟨rfl, G0⟩ := H0.out.next hp
  have c := G0.out.box.cell 5
  have f := G0.out.box.free 5
  simp only [List.getElem?_toArray, List.getElem?_cons_succ, List.getElem?_cons_zero] at c
  have H1 := Lib.hid (G0.out.put 5 (.int .i64 v0))
  simp only [List.setIfInBounds_toArray, List.set_cons_zero, List.set_cons_succ] at H1
  clear hp p0 p1 p2 H0 C0
  have hw0 := hv0.out
  go_upto_region 7 with fail
  clear hw0
  obtain ⟨z0, ez0⟩ : ∃ z, y0.setCell ⟨w.heap.size, 5, none⟩ (.int .i64 v0) = z := ⟨_, rfl⟩
  try rw [hv0.out]
  rw [ez0] at H1 ⊢
  clear c f ez0 G0 hv0
  have p0 := H1.out.pts.cell 0
  have p1 := H1.out.pts.cell 1
  have p2 := H1.out.pts.cell 2
  simp only [List.getElem?_toArray, List.getElem?_cons_succ, List.getElem?_cons_zero] at p0 p1 p2
  have q := H1.out.fin #[.int .i64 3, .int .i64 t, .int .i64 f, .int .u32 q, .int .i64 hops, .int .i64 v0, .int .i64 to, .int .i64 index, .int .i64 total, .int .i64 stamp, .int .i64 value, .slice ad n cap] rfl
  have b1 := Lib.hid H1.out.box
  have b2 := Lib.hid H1.out.res
  have q1 := Lib.hid q.1
  have q2 := Lib.hid q.2
  unfold zero Pk.cells at b2
  simp only [List.length_nil] at b2
  clear q H1
  go_wp2_with (first
    | (refine wpList_load_row rfl 27 _ rfl _ rfl _ #[.int .i64 3, .int .i64 t, .int .i64 f, .int .u32 q, .int .i64 hops, .int .i64 v0, .int .i64 to, .int .i64 index, .int .i64 total, .int .i64 stamp, .int .i64 value, .slice ad n cap] _ _ b1.out Tryz.underlying27 rfl infoPk ?_)
    | (refine wpList_store_row rfl 27 _ _ rfl _ #[.int .i64 3, .int .i64 t, .int .i64 f, .int .u32 q, .int .i64 hops, .int .i64 v0, .int .i64 to, .int .i64 index, .int .i64 total, .int .i64 stamp, .int .i64 value, .slice ad n cap] rfl rfl _ _ b2.out infoPk rfl HO.out ?_))
  exact bodyPost_ret (results_pk1 rfl _ _ (w.heap.size + 2) _ rfl q1.out rfl) rfl q2.out
theorem fill_any (p : Pk) (g : Nat) (s : Int × List UInt8) (w : World) (hk : kk p.kind = true) (h : RR w g s) :
    Calls Tryz.prog 68 #[.pointer (some ⟨g, 0, none⟩), pval p, .agg (kcs p.kind)] w (RPost w g (filS p.kind s) (pval (filP p s))) := by
  rw [kk_iff] at hk
  rcases hk with hk | hk | hk
  · have := fill_1 p g s w hk h
    rw [show kcs p.kind = kcs 1 from by rw [hk], show filS p.kind s = filS 1 s from by rw [hk]]; exact this
  · have := fill_2 p g s w hk h
    rw [show kcs p.kind = kcs 2 from by rw [hk], show filS p.kind s = filS 2 s from by rw [hk]]; exact this
  · have := fill_3 p g s w hk h
    rw [show kcs p.kind = kcs 3 from by rw [hk], show filS p.kind s = filS 3 s from by rw [hk]]; exact this
end Go.Proofs.YtanfnhgaooafeaaGreatDoor.Pul
