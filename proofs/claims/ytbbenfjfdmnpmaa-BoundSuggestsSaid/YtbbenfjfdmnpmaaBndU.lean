/- Contracts of package bound (layer 26): Suggest. -/
import Derived.Test.YtbbenfjfdmnpmaaBndQ
namespace Go.Proofs.Ytbbenfjfdmnpmaa.Bnd
open Go.ChangeShapes Go.WideShapes Go.ChangeAt Go.RowKit
open Go.Proofs.Ytbbenfjfdmnpmaa.Rw
set_option linter.unusedVariables false
set_option linter.unusedSimpArgs false
/-- The configuration that is answered. -/
def ansK (c : Cf) : Option Nat → Cf
  | some k => suit c (2 ^ k)
  | none => c
def SgPost (c : Cf) (w : World) (e : Ending) (w' : World) : Prop :=
  ∃ ad cap, e = .returned (.tuple #[cval (ansK (lnk c ad c.linksL cap) (fstK c 12 29)), .bool (fstK c 12 29).isSome]) ∧ Below w.heap.size w w'
/-- Two boxes of configurations. -/
structure Two2 (w W : World) (cs zs : Array Value) : Prop where
  below : Below w.heap.size w W
  conf : Blk W w.heap.size 24 cs
  res : Blk W (w.heap.size + 1) 24 zs
  far : w.heap.size + 2 ≤ W.heap.size
theorem Two2.later {w W W' : World} {cs zs : Array Value} (h : Two2 w W cs zs) (hB : Below W.heap.size W W') : Two2 w W' cs zs :=
  ⟨h.below.trans (hB.mono h.below.size), h.conf.below hB, h.res.below hB, Nat.le_trans h.far hB.size⟩
def zcells : Array Value := #[.int .i64 0, .slice none 0 0, .int .i64 0, .int .i64 0, .int .i64 0, .int .i64 0, .int .i64 0, .int .i64 0, .int .i64 0, .int .i64 0, .int .i64 0, .int .i64 0, .int .i64 0, .int .i64 0, .int .i64 0]
set_option maxRecDepth 100000 in
set_option maxHeartbeats 4000000 in
theorem suggest_any (c : Cf) (hn : -9223372036854775808 ≤ c.n ∧ c.n ≤ 9223372036854775807) (w : World) (hl : Lk w c.links c.linksL c.linksC c.linksS) (hs : c.linksC * 16 ≤ 140737488351232) :
    Calls Try.prog 15 #[cval c] w (SgPost c w) := by
  have H1 : Hid (∀ ad cap k w', fstK c 12 29 = some k → Below w.heap.size w w' → SgPost c w (.returned (.tuple #[.agg (ccells (suit (lnk c ad c.linksL cap) (2 ^ k))), .bool true])) w') := Lib.hid (fun ad cap k w' h hB => ⟨ad, cap, by rw [h]; rfl, hB⟩)
  have H2 : Hid (∀ ad cap w', fstK c 12 29 = none → Below w.heap.size w w' → SgPost c w (.returned (.tuple #[.agg (ccells (lnk c ad c.linksL cap)), .bool false])) w') := Lib.hid (fun ad cap w' h hB => ⟨ad, cap, by rw [h]; rfl, hB⟩)
  generalize SgPost c w = Q at *
  have CC := Lib.hid (fun W (hB : Below w.heap.size w W) => clone2_any c.links c.linksL c.linksC c.linksS W (hl.below hB) hs)
  unfold ClonePost at CC
  have CS := Lib.hid (fun ad cap R h0 h1 W => suited_any (lnk c ad c.linksL cap) hn R h0 h1 W)
  have CE := Lib.hid (fun ad cap R W => en_any (suit (lnk c ad c.linksL cap) R) hn W)
  have HOK := Lib.hid (fun ad cap R => show enB (suit (lnk c ad c.linksL cap) R) = okR c R from rfl)
  have HO := Lib.hid (fun c => cf_one c)
  clear hl hs hn
  have HC : Hid (∀ W, Below ((w.alloc (.cells (ccells c) 24)).alloc (.cells zcells 24)).heap.size ((w.alloc (.cells (ccells c) 24)).alloc (.cells zcells 24)) W → Two2 w W (ccells c) zcells) := Lib.hid (fun W h => by
    obtain ⟨h1, h2, h3, h4⟩ := boxes2 h
    exact ⟨h3, h1, h2, h4⟩)
  have HB0 : Hid (Below w.heap.size w ((w.alloc (.cells (ccells c) 24)).alloc (.cells zcells 24))) := Lib.hid (HC.out _ (Below.refl _ _)).below
  have HPUT : Hid (∀ W ad cap, Two2 w W (ccells c) zcells → Two2 w (W.setCell ⟨w.heap.size, 1, none⟩ (.slice ad c.linksL cap)) (ccells (lnk c ad c.linksL cap)) zcells) := Lib.hid (fun W ad cap h =>
    ⟨h.below.setCell (show w.heap.size ≤ w.heap.size from Nat.le_refl _) _, h.conf.put 1 _, h.res.far (show w.heap.size + 1 ≠ w.heap.size by omega) _, by have := h.far; simpa using this⟩)
  unfold zcells at *
  unfold cval ccells
  unfold ccells at HC HB0 HPUT
  go_enter Try.func15, Try.ntmps15
  go_wp2_with fail
  refine (CC.out _ HB0.out).mono ?_; rintro e w1 ⟨ad, cap, rfl, hB⟩
  have HT1 := Lib.hid (HC.out _ hB)
  clear hB HC HB0 CC
  have fz := HT1.out.conf.free
  have c1 : w1.cell? ⟨w.heap.size, 1, none⟩ = some (.slice c.links c.linksL c.linksC) := HT1.out.conf.cell 1
  go_upto_region 2 with fail
  have HT2 := Lib.hid (HPUT.out w1 ad cap HT1.out)
  clear fz c1 HT1 HPUT
  generalize (w1.setCell ⟨w.heap.size, 1, none⟩ (.slice ad c.linksL cap)) = w2 at *
  have CS := Lib.hid (CS.out ad cap)
  have CE := Lib.hid (CE.out ad cap)
  have HOK := Lib.hid (HOK.out ad cap)
  have H1 := Lib.hid (H1.out ad cap)
  have H2 := Lib.hid (H2.out ad cap)
  have HT0 : Hid (Two2 w w2 (ccells (lnk c ad c.linksL cap)) #[.int .i64 0, .slice none 0 0, .int .i64 0, .int .i64 0, .int .i64 0, .int .i64 0, .int .i64 0, .int .i64 0, .int .i64 0, .int .i64 0, .int .i64 0, .int .i64 0, .int .i64 0, .int .i64 0, .int .i64 0]) := Lib.hid HT2.out
  clear HT2
  go_wp2_with fail
  go_loopw [4, 5] (fun vv dd wr => ∃ k : Nat, 12 ≤ k ∧ k ≤ 41 ∧ vv = .int .i64 ((2 : Int) ^ k) ∧ Hid (fstK c k (41 - k) = fstK c 12 29) ∧ Hid (Two2 w wr (ccells (lnk c ad c.linksL cap)) #[.int .i64 0, .slice none 0 0, .int .i64 0, .int .i64 0, .int .i64 0, .int .i64 0, .int .i64 0, .int .i64 0, .int .i64 0, .int .i64 0, .int .i64 0, .int .i64 0, .int .i64 0, .int .i64 0, .int .i64 0])) (fun vv _ _ => (2199023255552 - intOf vv).toNat)
  case atStart => exact ⟨12, by omega, by omega, rfl, Lib.hid rfl, HT0⟩
  case round =>
    obtain ⟨k, hk0, hk1, rfl, HF, HT⟩ := hrel
    obtain ⟨b0, b1, b2⟩ := pow_bd hk0 hk1
    clear HT0
    generalize wr = w5 at *
    by_cases hk : k ≤ 40
    · have hR1 := b2.2 hk
      have HS : Hid ((2 : Int) ^ k * 2 = 2 ^ (k + 1)) := Lib.hid (Int.pow_succ 2 k).symm
      obtain ⟨ds, hds⟩ : ∃ ds, ccells (suit (lnk c ad c.linksL cap) (2 ^ k)) = ds := ⟨_, rfl⟩
      have CSk := Lib.hid (CS.out (2 ^ k) b0 hR1)
      have CEk := Lib.hid (CE.out (2 ^ k))
      rw [HOK.out] at CEk
      have HP1 := Lib.hid (H1.out k)
      have HDS : Hid (ds.size = 15) := Lib.hid (by rw [← hds]; rfl)
      have HDO : Hid (ds.all (·.oneCell') = true) := Lib.hid (by rw [← hds]; exact HO.out _)
      unfold cval at CSk CEk
      rw [hds] at CSk CEk HP1
      have HIT := Lib.hid (fun h : okR c (2 ^ k) = true => HF.out.symm.trans (fstK_hit hk h))
      have HMI := Lib.hid (fun h : okR c (2 ^ k) = false => (fstK_miss hk h).symm.trans HF.out)
      have b3 : (2 : Int) ^ k ≤ 1099511627776 := hR1
      clear hds b2 hR1 H1 H2 CS CE HOK
      generalize okR c (2 ^ k) = ok at *
      generalize hR : (2 : Int) ^ k = R at b0 b1 b3 CSk HS ⊢
      have HRk := Lib.hid hR
      clear hR
      have d3 : decide (R ≤ 1099511627776) = true := decide_eq_true b3
      go_upto_region 5 with fail
      go_wp2_with (refine load_cf rfl _ rfl w.heap.size rfl (ccells (lnk c ad c.linksL cap)) rfl HT.out.conf ?_)
      refine (CSk.out _).mono ?_; rintro e w3 ⟨rfl, hB⟩
      have HT3 := Lib.hid (HT.out.later hB)
      clear hB HT
      go_upto_region 6 with (refine store_cf rfl _ _ rfl w3.heap.size ds rfl rfl HDS.out HDO.out _ (Blk.new _ _ _) rfl ?_)
      have HN4 : Hid (Blk ((w3.alloc (.cells #[.int .i64 0, .slice none 0 0, .int .i64 0, .int .i64 0, .int .i64 0, .int .i64 0, .int .i64 0, .int .i64 0, .int .i64 0, .int .i64 0, .int .i64 0, .int .i64 0, .int .i64 0, .int .i64 0, .int .i64 0] 24)).setRow w3.heap.size ds) w3.heap.size 24 ds) := Lib.hid (Blk.setRow (Blk.new _ _ _) ds)
      have HT4 : Hid (Two2 w ((w3.alloc (.cells #[.int .i64 0, .slice none 0 0, .int .i64 0, .int .i64 0, .int .i64 0, .int .i64 0, .int .i64 0, .int .i64 0, .int .i64 0, .int .i64 0, .int .i64 0, .int .i64 0, .int .i64 0, .int .i64 0, .int .i64 0] 24)).setRow w3.heap.size ds) (ccells (lnk c ad c.linksL cap)) #[.int .i64 0, .slice none 0 0, .int .i64 0, .int .i64 0, .int .i64 0, .int .i64 0, .int .i64 0, .int .i64 0, .int .i64 0, .int .i64 0, .int .i64 0, .int .i64 0, .int .i64 0, .int .i64 0, .int .i64 0]) := Lib.hid (HT3.out.later (below_setRow ((Below.refl _ _).alloc (Nat.le_refl _) _) (Nat.le_refl _) ds))
      clear HT3
      simp only [Act.put]
      generalize ((w3.alloc (.cells #[.int .i64 0, .slice none 0 0, .int .i64 0, .int .i64 0, .int .i64 0, .int .i64 0, .int .i64 0, .int .i64 0, .int .i64 0, .int .i64 0, .int .i64 0, .int .i64 0, .int .i64 0, .int .i64 0, .int .i64 0] 24)).setRow w3.heap.size ds) = w4 at *
      generalize w3.heap.size = g at *
      go_wp2_with (refine load_cf rfl _ rfl g rfl ds HDS.out HN4.out ?_)
      refine (CEk.out _).mono ?_; rintro e w6 ⟨rfl, hB⟩
      have HN6 := Lib.hid (HN4.out.below hB)
      have HT6 := Lib.hid (HT4.out.later hB)
      clear hB HN4 HT4
      cases ok with
      | true =>
        have HF2 := HIT.out rfl
        go_upto_region 7 with fail
        refine open_end (by assumption) ?_
        intro Q2 K2 HQ2 hK2
        go_wp2_with (first | (refine load_cf rfl _ rfl g rfl ds HDS.out HN6.out ?_) | (refine store_cf rfl _ _ rfl (w.heap.size + 1) ds rfl rfl HDS.out HDO.out _ HT6.out.res rfl ?_))
        refine HQ2.out _ _ ?_
        exact bodyPost_ret (v := .tuple #[.agg ds, .bool true]) (results_cf2 rfl _ _ (w.heap.size + 1) ds (.bool true) rfl rfl (HT6.out.res.setRow _) HDS.out) rfl (HP1.out _ HF2 (below_setRow HT6.out.below (g := w.heap.size + 1) (by omega) ds))
      | false =>
        have HF2 := Lib.hid (HMI.out rfl)
        have hpos : R < R * 2 := by omega
        clear HIT HMI HP1 CSk CEk HDS HDO
        go_wp2_with fail
        go_roundw
        case rel => exact ⟨k + 1, by omega, by omega, by rw [HS.out], HF2, HT6⟩
        case measure => simp [intOf]; omega
    · have hk41 : k = 41 := by omega
      subst hk41
      have d3 : decide ((2 : Int) ^ 41 ≤ 1099511627776) = false := by decide
      have HP2 := fun w' => H2.out w' (HF.out.symm.trans (fstK_end c))
      clear H1 H2 CS CE HOK b0 b1 b2
      go_upto_region 8 with fail
      refine open_end (by assumption) ?_
      intro Q2 K2 HQ2 hK2
      go_wp2_with (first | (refine load_cf rfl _ rfl w.heap.size rfl (ccells (lnk c ad c.linksL cap)) rfl HT.out.conf ?_) | (refine store_cf rfl _ _ rfl (w.heap.size + 1) (ccells (lnk c ad c.linksL cap)) rfl rfl rfl (HO.out _) _ HT.out.res rfl ?_))
      refine HQ2.out _ _ ?_
      exact bodyPost_ret (v := .tuple #[.agg (ccells (lnk c ad c.linksL cap)), .bool false]) (results_cf2 rfl _ _ (w.heap.size + 1) (ccells (lnk c ad c.linksL cap)) (.bool false) rfl rfl (HT.out.res.setRow _) rfl) rfl (HP2 _ (below_setRow HT.out.below (g := w.heap.size + 1) (by omega) (ccells (lnk c ad c.linksL cap))))
end Go.Proofs.Ytbbenfjfdmnpmaa.Bnd
