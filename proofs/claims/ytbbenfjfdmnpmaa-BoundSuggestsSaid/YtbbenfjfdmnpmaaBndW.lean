/- The document's own Suggest (layer 26). -/
import Derived.Test.YtbbenfjfdmnpmaaBndU
import Derived.Test.YtbbenfjfdmnpmaaBndX
namespace Go.Proofs.Ytbbenfjfdmnpmaa.Bnd
open Go.ChangeShapes Go.WideShapes Go.ChangeAt Go.RowKit
open Go.Proofs.Ytbbenfjfdmnpmaa.Rw
set_option linter.unusedVariables false
set_option linter.unusedSimpArgs false
def RgPost (c : Cf) (w : World) (e : Ending) (w' : World) : Prop :=
  e = .returned (.tuple #[cval (ansK c (fstK c 12 29)), .bool (fstK c 12 29).isSome]) ∧ Below w.heap.size w w'
/-- Three boxes of configurations. -/
structure Three (w W : World) (cs zs ms : Array Value) : Prop where
  below : Below w.heap.size w W
  conf : Blk W w.heap.size 24 cs
  res : Blk W (w.heap.size + 1) 24 zs
  cur : Blk W (w.heap.size + 1 + 1) 24 ms
theorem Three.later {w W W' : World} {cs zs ms : Array Value} (h : Three w W cs zs ms) (hB : Below W.heap.size W W') : Three w W' cs zs ms :=
  ⟨h.below.trans (hB.mono h.below.size), h.conf.below hB, h.res.below hB, h.cur.below hB⟩
theorem Three.put {w W : World} {cs zs ms : Array Value} (h : Three w W cs zs ms) (k : Nat) (v : Value) (ms' : Array Value) (hm : ms.setIfInBounds k v = ms') : Three w (W.setCell ⟨w.heap.size + 1 + 1, k, none⟩ v) cs zs ms' := by
  subst hm
  exact ⟨h.below.setCell (show w.heap.size ≤ w.heap.size + 1 + 1 by omega) v, h.conf.far (show w.heap.size ≠ w.heap.size + 1 + 1 by omega) _, h.res.far (show w.heap.size + 1 ≠ w.heap.size + 1 + 1 by omega) _, h.cur.put k v⟩
theorem three_new (w : World) (cs zs : Array Value) : Three w (((w.alloc (.cells cs 24)).alloc (.cells zs 24)).alloc (.cells cs 24)) cs zs cs := by
  obtain ⟨h1, h2, h3, -⟩ := boxes2 (Below.refl ((w.alloc (.cells cs 24)).alloc (.cells zs 24)).heap.size ((w.alloc (.cells cs 24)).alloc (.cells zs 24)))
  refine ⟨h3.alloc h3.size _, h1.alloc _, h2.alloc _, ?_⟩
  have := Blk.new ((w.alloc (.cells cs 24)).alloc (.cells zs 24)) 24 cs
  simpa using this
set_option maxRecDepth 100000 in
set_option maxHeartbeats 4000000 in
theorem rsuggest_any (c : Cf) (w : World) :
    Calls Try.prog 16 #[cval c] w (RgPost c w) := by
  have H1 : Hid (∀ k w', fstK c 12 29 = some k → Below w.heap.size w w' → RgPost c w (.returned (.tuple #[.agg (ccells (suit c (2 ^ k))), .bool true])) w') := Lib.hid (fun k w' h hB => ⟨by rw [h]; rfl, hB⟩)
  have H2 : Hid (∀ w', fstK c 12 29 = none → Below w.heap.size w w' → RgPost c w (.returned (.tuple #[.agg (ccells c), .bool false])) w') := Lib.hid (fun w' h hB => ⟨by rw [h]; rfl, hB⟩)
  generalize RgPost c w = Q at *
  have CG := Lib.hid (fun d W => brgood_any d W)
  have CO := Lib.hid (fun d g W => brof_good d g W)
  have CE := Lib.hid (fun d W => ren_any d W)
  have HO := Lib.hid (fun c => cf_one c)
  unfold cval ccells
  go_enter Try.func16, Try.ntmps16
  go_upto_region 2 with fail
  have HT0 := Lib.hid (three_new w #[.int .i64 c.n, .slice c.links c.linksL c.linksC, .int .i64 c.f, .int .i64 c.dmin, .int .i64 c.dmax, .int .i64 c.rho, .int .i64 c.slew, .int .i64 c.round, .int .i64 c.window, .int .i64 c.attend, .int .i64 c.seen, .int .i64 c.hist, .int .i64 c.fly, .int .i64 c.quota, .int .i64 c.body] #[.int .i64 0, .slice none 0 0, .int .i64 0, .int .i64 0, .int .i64 0, .int .i64 0, .int .i64 0, .int .i64 0, .int .i64 0, .int .i64 0, .int .i64 0, .int .i64 0, .int .i64 0, .int .i64 0, .int .i64 0])
  generalize (((w.alloc (.cells #[.int .i64 c.n, .slice c.links c.linksL c.linksC, .int .i64 c.f, .int .i64 c.dmin, .int .i64 c.dmax, .int .i64 c.rho, .int .i64 c.slew, .int .i64 c.round, .int .i64 c.window, .int .i64 c.attend, .int .i64 c.seen, .int .i64 c.hist, .int .i64 c.fly, .int .i64 c.quota, .int .i64 c.body] 24)).alloc (.cells #[.int .i64 0, .slice none 0 0, .int .i64 0, .int .i64 0, .int .i64 0, .int .i64 0, .int .i64 0, .int .i64 0, .int .i64 0, .int .i64 0, .int .i64 0, .int .i64 0, .int .i64 0, .int .i64 0, .int .i64 0] 24)).alloc (.cells #[.int .i64 c.n, .slice c.links c.linksL c.linksC, .int .i64 c.f, .int .i64 c.dmin, .int .i64 c.dmax, .int .i64 c.rho, .int .i64 c.slew, .int .i64 c.round, .int .i64 c.window, .int .i64 c.attend, .int .i64 c.seen, .int .i64 c.hist, .int .i64 c.fly, .int .i64 c.quota, .int .i64 c.body] 24)) = w0 at *
  go_wp2_with fail
  go_loopw [5] (fun vv wr => ∃ k : Nat, 12 ≤ k ∧ k ≤ 41 ∧ vv = .int .i64 (k : Int) ∧ Hid (fstK c k (41 - k) = fstK c 12 29) ∧ ∃ R W A : Int, Hid (Three w wr #[.int .i64 c.n, .slice c.links c.linksL c.linksC, .int .i64 c.f, .int .i64 c.dmin, .int .i64 c.dmax, .int .i64 c.rho, .int .i64 c.slew, .int .i64 c.round, .int .i64 c.window, .int .i64 c.attend, .int .i64 c.seen, .int .i64 c.hist, .int .i64 c.fly, .int .i64 c.quota, .int .i64 c.body] #[.int .i64 0, .slice none 0 0, .int .i64 0, .int .i64 0, .int .i64 0, .int .i64 0, .int .i64 0, .int .i64 0, .int .i64 0, .int .i64 0, .int .i64 0, .int .i64 0, .int .i64 0, .int .i64 0, .int .i64 0] #[.int .i64 c.n, .slice c.links c.linksL c.linksC, .int .i64 c.f, .int .i64 c.dmin, .int .i64 c.dmax, .int .i64 c.rho, .int .i64 c.slew, .int .i64 R, .int .i64 W, .int .i64 A, .int .i64 c.seen, .int .i64 c.hist, .int .i64 c.fly, .int .i64 c.quota, .int .i64 c.body])) (fun vv _ => (41 - intOf vv).toNat)
  case atStart => exact ⟨12, by omega, by omega, rfl, Lib.hid rfl, c.round, c.window, c.attend, HT0⟩
  case round =>
    obtain ⟨k, hk0, hk1, rfl, HF, R0, W0, A0, HT⟩ := hrel
    clear HT0
    generalize wr = w5 at *
    by_cases hk : k ≤ 40
    · obtain ⟨b0, b1, b2⟩ := pow_bd hk0 hk1
      have b3 := b2.2 hk
      clear b1 b2
      have d3 : decide ((k : Int) ≤ 40) = true := decide_eq_true (by omega)
      have hmin : min k 64 = k := by omega
      have huw : IntKind.u64.wrap (k : Int) = k := by simp only [IntKind.wrap_u64]; omega
      have hpw : IntKind.i64.wrap (2 ^ k) = 2 ^ k := by simp only [IntKind.wrap_i64]; omega
      have hpw2 : wrap64 (2 ^ k) = 2 ^ k := by unfold wrap64; omega
      have c7 : w5.cell? ⟨w.heap.size + 1 + 1, 7, none⟩ = some (.int .i64 R0) := HT.out.cur.cell 7
      have fz := HT.out.cur.free
      go_upto_region 6 with fail
      have HT6 := Lib.hid (HT.out.put 7 (.int .i64 (2 ^ k)) #[.int .i64 c.n, .slice c.links c.linksL c.linksC, .int .i64 c.f, .int .i64 c.dmin, .int .i64 c.dmax, .int .i64 c.rho, .int .i64 c.slew, .int .i64 (2 ^ k), .int .i64 W0, .int .i64 A0, .int .i64 c.seen, .int .i64 c.hist, .int .i64 c.fly, .int .i64 c.quota, .int .i64 c.body] rfl)
      clear c7 fz HT hmin huw hpw hpw2
      generalize (w5.setCell ⟨w.heap.size + 1 + 1, 7, none⟩ (.int .i64 (2 ^ k))) = w6 at *
      have HR0 := HO.out (pers c (2 ^ k) (2 ^ k / 4) 1)
      have CGk := Lib.hid (CG.out (pers c (2 ^ k) (2 ^ k / 4) 1))
      have CEk := Lib.hid (CE.out (suitD c (2 ^ k)))
      rw [okD b0 b3] at CEk
      have HOG := Lib.hid (fun h : okR c (2 ^ k) = true => ok_good b0 b3 h)
      have HIT := Lib.hid (fun h : okR c (2 ^ k) = true => HF.out.symm.trans (fstK_hit hk h))
      have HMI := Lib.hid (fun h : okR c (2 ^ k) = false => (fstK_miss hk h).symm.trans HF.out)
      have HP1 := Lib.hid (H1.out k)
      generalize okR c (2 ^ k) = ok at *
      have hd4 : ((2 : Int) ^ k).tdiv 4 = 2 ^ k / 4 := Int.tdiv_eq_ediv_of_nonneg (by omega)
      clear H1 H2 CG CE HR0
      cases hg : goodC (pers c (2 ^ k) (2 ^ k / 4) 1) with
      | false =>
        have hsd : suitD c (2 ^ k) = pers c (2 ^ k) (2 ^ k / 4) 1 := by unfold suitD; rw [if_neg (by rw [hg]; simp)]
        have HDO := Lib.hid (HO.out (pers c (2 ^ k) (2 ^ k / 4) 1))
        have HOG := Lib.hid (fun h : ok = true => hsd.symm.trans (HOG.out h))
        rw [hsd] at CEk
        clear hsd
        rw [hg] at CGk
        clear hg CO HO
        have HP1 := Lib.hid (fun w' h1 (h : ok = true) => by have := HP1.out w' h1; rwa [← HOG.out h] at this)
        clear HOG
        generalize hq : (2 : Int) ^ k / 4 = q at hd4 CGk CEk HDO HP1 
        generalize hR : (2 : Int) ^ k = R at b0 b3 hd4 hq CGk CEk HDO HP1 HT6  ⊢
        have hq0 : 0 ≤ q ∧ q ≤ 1099511627776 := by omega
        obtain ⟨q0, q1⟩ := hq0
        have hr0 : 0 ≤ R := by omega
        have HQ := Lib.hid hq
        clear hR hq
        unfold pers cval ccells at CGk CEk
        unfold pers ccells at HDO HP1

        dsimp only at CGk CEk HDO HP1 
        have c7 : w6.cell? ⟨w.heap.size + 1 + 1, 7, none⟩ = some (.int .i64 R) := HT6.out.cur.cell 7
        have c8 : w6.cell? ⟨w.heap.size + 1 + 1, 8, none⟩ = some (.int .i64 W0) := HT6.out.cur.cell 8
        have c9 : w6.cell? ⟨w.heap.size + 1 + 1, 9, none⟩ = some (.int .i64 A0) := HT6.out.cur.cell 9
        have fz := HT6.out.cur.free
        go_upto_region 7 with fail
        have HT7 := Lib.hid ((HT6.out.put 8 (.int .i64 q) #[.int .i64 c.n, .slice c.links c.linksL c.linksC, .int .i64 c.f, .int .i64 c.dmin, .int .i64 c.dmax, .int .i64 c.rho, .int .i64 c.slew, .int .i64 R, .int .i64 q, .int .i64 A0, .int .i64 c.seen, .int .i64 c.hist, .int .i64 c.fly, .int .i64 c.quota, .int .i64 c.body] rfl).put 9 (.int .i64 1) #[.int .i64 c.n, .slice c.links c.linksL c.linksC, .int .i64 c.f, .int .i64 c.dmin, .int .i64 c.dmax, .int .i64 c.rho, .int .i64 c.slew, .int .i64 R, .int .i64 q, .int .i64 1, .int .i64 c.seen, .int .i64 c.hist, .int .i64 c.fly, .int .i64 c.quota, .int .i64 c.body] rfl)
        clear c7 c8 c9 fz HT6
        generalize ((w6.setCell ⟨w.heap.size + 1 + 1, 8, none⟩ (.int .i64 q)).setCell ⟨w.heap.size + 1 + 1, 9, none⟩ (.int .i64 1)) = w7 at *
        go_wp2_with (refine load_cf rfl _ rfl (w.heap.size + 1 + 1) rfl #[.int .i64 c.n, .slice c.links c.linksL c.linksC, .int .i64 c.f, .int .i64 c.dmin, .int .i64 c.dmax, .int .i64 c.rho, .int .i64 c.slew, .int .i64 R, .int .i64 q, .int .i64 1, .int .i64 c.seen, .int .i64 c.hist, .int .i64 c.fly, .int .i64 c.quota, .int .i64 c.body] rfl HT7.out.cur ?_)
        refine (CGk.out _).mono ?_; rintro e w8 ⟨rfl, hB⟩
        have HT8 := Lib.hid (HT7.out.later hB)
        clear hB HT7 CGk
        go_wp2_with (refine load_cf rfl _ rfl (w.heap.size + 1 + 1) rfl #[.int .i64 c.n, .slice c.links c.linksL c.linksC, .int .i64 c.f, .int .i64 c.dmin, .int .i64 c.dmax, .int .i64 c.rho, .int .i64 c.slew, .int .i64 R, .int .i64 q, .int .i64 1, .int .i64 c.seen, .int .i64 c.hist, .int .i64 c.fly, .int .i64 c.quota, .int .i64 c.body] rfl HT8.out.cur ?_)
        refine (CEk.out _).mono ?_; rintro e w11 ⟨rfl, hB⟩
        have HT11 := Lib.hid (HT8.out.later hB)
        clear hB HT8 CEk
        cases ok with
        | true =>
          have HF2 := HIT.out rfl
          go_upto_region 10 with fail
          refine open_end (by assumption) ?_
          intro Q2 K2 HQ2 hK2
          go_wp2_with (first | (refine load_cf rfl _ rfl (w.heap.size + 1 + 1) rfl #[.int .i64 c.n, .slice c.links c.linksL c.linksC, .int .i64 c.f, .int .i64 c.dmin, .int .i64 c.dmax, .int .i64 c.rho, .int .i64 c.slew, .int .i64 R, .int .i64 q, .int .i64 1, .int .i64 c.seen, .int .i64 c.hist, .int .i64 c.fly, .int .i64 c.quota, .int .i64 c.body] rfl HT11.out.cur ?_) | (refine store_cf rfl _ _ rfl (w.heap.size + 1) #[.int .i64 c.n, .slice c.links c.linksL c.linksC, .int .i64 c.f, .int .i64 c.dmin, .int .i64 c.dmax, .int .i64 c.rho, .int .i64 c.slew, .int .i64 R, .int .i64 q, .int .i64 1, .int .i64 c.seen, .int .i64 c.hist, .int .i64 c.fly, .int .i64 c.quota, .int .i64 c.body] rfl rfl rfl HDO.out _ HT11.out.res rfl ?_))
          refine HQ2.out _ _ ?_
          exact bodyPost_ret (v := .tuple #[.agg #[.int .i64 c.n, .slice c.links c.linksL c.linksC, .int .i64 c.f, .int .i64 c.dmin, .int .i64 c.dmax, .int .i64 c.rho, .int .i64 c.slew, .int .i64 R, .int .i64 q, .int .i64 1, .int .i64 c.seen, .int .i64 c.hist, .int .i64 c.fly, .int .i64 c.quota, .int .i64 c.body], .bool true]) (results_cf2 rfl _ _ (w.heap.size + 1) #[.int .i64 c.n, .slice c.links c.linksL c.linksC, .int .i64 c.f, .int .i64 c.dmin, .int .i64 c.dmax, .int .i64 c.rho, .int .i64 c.slew, .int .i64 R, .int .i64 q, .int .i64 1, .int .i64 c.seen, .int .i64 c.hist, .int .i64 c.fly, .int .i64 c.quota, .int .i64 c.body] (.bool true) rfl rfl (HT11.out.res.setRow _) rfl) rfl (HP1.out _ HF2 (by first | rfl | trivial) (below_setRow HT11.out.below (g := w.heap.size + 1) (by omega) #[.int .i64 c.n, .slice c.links c.linksL c.linksC, .int .i64 c.f, .int .i64 c.dmin, .int .i64 c.dmax, .int .i64 c.rho, .int .i64 c.slew, .int .i64 R, .int .i64 q, .int .i64 1, .int .i64 c.seen, .int .i64 c.hist, .int .i64 c.fly, .int .i64 c.quota, .int .i64 c.body]))
        | false =>
          have HF2 := Lib.hid (HMI.out rfl)
          clear HIT HMI HP1 HDO
          go_wp2_with fail
          go_roundw
          case rel => exact ⟨k + 1, by omega, by omega, by go_num, HF2, _, _, _, HT11⟩
          case measure => simp [intOf]; omega
      | true =>
        have CO1 := Lib.hid (CO.out (pers c (2 ^ k) (2 ^ k / 4) 1) (good_yes hg))
        have hde := (num_bd (good_yes hg)).delta
        have hsd : suitD c (2 ^ k) = pers c (2 ^ k) (2 ^ k / 4) (2 * (num (pers c (2 ^ k) (2 ^ k / 4) 1)).delta) := by unfold suitD; rw [if_pos hg]
        have HDO := Lib.hid (HO.out (pers c (2 ^ k) (2 ^ k / 4) (2 * (num (pers c (2 ^ k) (2 ^ k / 4) 1)).delta)))
        have HOG := Lib.hid (fun h : ok = true => hsd.symm.trans (HOG.out h))
        rw [hsd] at CEk
        clear hsd
        obtain ⟨m, hm⟩ : ∃ m, num (pers c (2 ^ k) (2 ^ k / 4) 1) = m := ⟨_, rfl⟩
        rw [hm] at CO1 hde HDO HOG CEk
        clear hm
        rw [hg] at CGk
        clear hg CO HO
        have HP1 := Lib.hid (fun w' h1 (h : ok = true) => by have := HP1.out w' h1; rwa [← HOG.out h] at this)
        clear HOG
        obtain ⟨h_, f_, s_, l_, rd, ag, st, ep, mo, cd, ro, de, dn, jn⟩ := m
        dsimp only at hde
        obtain ⟨de0, de1⟩ := hde
        generalize hq : (2 : Int) ^ k / 4 = q at hd4 CGk CEk HDO HP1 CO1
        generalize hR : (2 : Int) ^ k = R at b0 b3 hd4 hq CGk CEk HDO HP1 HT6 CO1 ⊢
        have hq0 : 0 ≤ q ∧ q ≤ 1099511627776 := by omega
        obtain ⟨q0, q1⟩ := hq0
        have hr0 : 0 ≤ R := by omega
        have HQ := Lib.hid hq
        clear hR hq
        unfold pers cval ccells at CGk CEk CO1
        unfold pers ccells at HDO HP1
        unfold nval ncells at CO1
        dsimp only at CGk CEk HDO HP1 CO1
        have c7 : w6.cell? ⟨w.heap.size + 1 + 1, 7, none⟩ = some (.int .i64 R) := HT6.out.cur.cell 7
        have c8 : w6.cell? ⟨w.heap.size + 1 + 1, 8, none⟩ = some (.int .i64 W0) := HT6.out.cur.cell 8
        have c9 : w6.cell? ⟨w.heap.size + 1 + 1, 9, none⟩ = some (.int .i64 A0) := HT6.out.cur.cell 9
        have fz := HT6.out.cur.free
        go_upto_region 7 with fail
        have HT7 := Lib.hid ((HT6.out.put 8 (.int .i64 q) #[.int .i64 c.n, .slice c.links c.linksL c.linksC, .int .i64 c.f, .int .i64 c.dmin, .int .i64 c.dmax, .int .i64 c.rho, .int .i64 c.slew, .int .i64 R, .int .i64 q, .int .i64 A0, .int .i64 c.seen, .int .i64 c.hist, .int .i64 c.fly, .int .i64 c.quota, .int .i64 c.body] rfl).put 9 (.int .i64 1) #[.int .i64 c.n, .slice c.links c.linksL c.linksC, .int .i64 c.f, .int .i64 c.dmin, .int .i64 c.dmax, .int .i64 c.rho, .int .i64 c.slew, .int .i64 R, .int .i64 q, .int .i64 1, .int .i64 c.seen, .int .i64 c.hist, .int .i64 c.fly, .int .i64 c.quota, .int .i64 c.body] rfl)
        clear c7 c8 c9 fz HT6
        generalize ((w6.setCell ⟨w.heap.size + 1 + 1, 8, none⟩ (.int .i64 q)).setCell ⟨w.heap.size + 1 + 1, 9, none⟩ (.int .i64 1)) = w7 at *
        go_wp2_with (refine load_cf rfl _ rfl (w.heap.size + 1 + 1) rfl #[.int .i64 c.n, .slice c.links c.linksL c.linksC, .int .i64 c.f, .int .i64 c.dmin, .int .i64 c.dmax, .int .i64 c.rho, .int .i64 c.slew, .int .i64 R, .int .i64 q, .int .i64 1, .int .i64 c.seen, .int .i64 c.hist, .int .i64 c.fly, .int .i64 c.quota, .int .i64 c.body] rfl HT7.out.cur ?_)
        refine (CGk.out _).mono ?_; rintro e w8 ⟨rfl, hB⟩
        have HT8 := Lib.hid (HT7.out.later hB)
        clear hB HT7 CGk
        go_wp2_with (refine load_cf rfl _ rfl (w.heap.size + 1 + 1) rfl #[.int .i64 c.n, .slice c.links c.linksL c.linksC, .int .i64 c.f, .int .i64 c.dmin, .int .i64 c.dmax, .int .i64 c.rho, .int .i64 c.slew, .int .i64 R, .int .i64 q, .int .i64 1, .int .i64 c.seen, .int .i64 c.hist, .int .i64 c.fly, .int .i64 c.quota, .int .i64 c.body] rfl HT8.out.cur ?_)
        refine (CO1.out _).mono ?_; rintro e w9 ⟨rfl, hB⟩
        have HT9 := Lib.hid (HT8.out.later hB)
        clear hB HT8 CO1
        have c9 : w9.cell? ⟨w.heap.size + 1 + 1, 9, none⟩ = some (.int .i64 1) := HT9.out.cur.cell 9
        have fz := HT9.out.cur.free
        have hfd : ∀ W : World, (Instr.field 32 (.agg #[.int .i64 h_, .int .i64 f_, .int .i64 s_, .int .i64 l_, .int .i64 rd, .int .i64 ag, .int .i64 st, .int .i64 ep, .int .i64 mo, .int .i64 cd, .int .i64 ro, .int .i64 de, .int .i64 dn, .int .i64 jn]) 11).run Try.prog W = .ok (.int .i64 de) W := fun _ => by kernel_rfl
        go_upto_region 9 with fail
        clear hfd
        have HT10 := Lib.hid (HT9.out.put 9 (.int .i64 (2 * de)) #[.int .i64 c.n, .slice c.links c.linksL c.linksC, .int .i64 c.f, .int .i64 c.dmin, .int .i64 c.dmax, .int .i64 c.rho, .int .i64 c.slew, .int .i64 R, .int .i64 q, .int .i64 (2 * de), .int .i64 c.seen, .int .i64 c.hist, .int .i64 c.fly, .int .i64 c.quota, .int .i64 c.body] rfl)
        clear c9 fz HT9
        generalize (w9.setCell ⟨w.heap.size + 1 + 1, 9, none⟩ (.int .i64 (2 * de))) = w10 at *
        go_wp2_with (refine load_cf rfl _ rfl (w.heap.size + 1 + 1) rfl #[.int .i64 c.n, .slice c.links c.linksL c.linksC, .int .i64 c.f, .int .i64 c.dmin, .int .i64 c.dmax, .int .i64 c.rho, .int .i64 c.slew, .int .i64 R, .int .i64 q, .int .i64 (2 * de), .int .i64 c.seen, .int .i64 c.hist, .int .i64 c.fly, .int .i64 c.quota, .int .i64 c.body] rfl HT10.out.cur ?_)
        refine (CEk.out _).mono ?_; rintro e w11 ⟨rfl, hB⟩
        have HT11 := Lib.hid (HT10.out.later hB)
        clear hB HT10 CEk
        cases ok with
        | true =>
          have HF2 := HIT.out rfl
          go_upto_region 10 with fail
          refine open_end (by assumption) ?_
          intro Q2 K2 HQ2 hK2
          go_wp2_with (first | (refine load_cf rfl _ rfl (w.heap.size + 1 + 1) rfl #[.int .i64 c.n, .slice c.links c.linksL c.linksC, .int .i64 c.f, .int .i64 c.dmin, .int .i64 c.dmax, .int .i64 c.rho, .int .i64 c.slew, .int .i64 R, .int .i64 q, .int .i64 (2 * de), .int .i64 c.seen, .int .i64 c.hist, .int .i64 c.fly, .int .i64 c.quota, .int .i64 c.body] rfl HT11.out.cur ?_) | (refine store_cf rfl _ _ rfl (w.heap.size + 1) #[.int .i64 c.n, .slice c.links c.linksL c.linksC, .int .i64 c.f, .int .i64 c.dmin, .int .i64 c.dmax, .int .i64 c.rho, .int .i64 c.slew, .int .i64 R, .int .i64 q, .int .i64 (2 * de), .int .i64 c.seen, .int .i64 c.hist, .int .i64 c.fly, .int .i64 c.quota, .int .i64 c.body] rfl rfl rfl HDO.out _ HT11.out.res rfl ?_))
          refine HQ2.out _ _ ?_
          exact bodyPost_ret (v := .tuple #[.agg #[.int .i64 c.n, .slice c.links c.linksL c.linksC, .int .i64 c.f, .int .i64 c.dmin, .int .i64 c.dmax, .int .i64 c.rho, .int .i64 c.slew, .int .i64 R, .int .i64 q, .int .i64 (2 * de), .int .i64 c.seen, .int .i64 c.hist, .int .i64 c.fly, .int .i64 c.quota, .int .i64 c.body], .bool true]) (results_cf2 rfl _ _ (w.heap.size + 1) #[.int .i64 c.n, .slice c.links c.linksL c.linksC, .int .i64 c.f, .int .i64 c.dmin, .int .i64 c.dmax, .int .i64 c.rho, .int .i64 c.slew, .int .i64 R, .int .i64 q, .int .i64 (2 * de), .int .i64 c.seen, .int .i64 c.hist, .int .i64 c.fly, .int .i64 c.quota, .int .i64 c.body] (.bool true) rfl rfl (HT11.out.res.setRow _) rfl) rfl (HP1.out _ HF2 (by first | rfl | trivial) (below_setRow HT11.out.below (g := w.heap.size + 1) (by omega) #[.int .i64 c.n, .slice c.links c.linksL c.linksC, .int .i64 c.f, .int .i64 c.dmin, .int .i64 c.dmax, .int .i64 c.rho, .int .i64 c.slew, .int .i64 R, .int .i64 q, .int .i64 (2 * de), .int .i64 c.seen, .int .i64 c.hist, .int .i64 c.fly, .int .i64 c.quota, .int .i64 c.body]))
        | false =>
          have HF2 := Lib.hid (HMI.out rfl)
          clear HIT HMI HP1 HDO
          go_wp2_with fail
          go_roundw
          case rel => exact ⟨k + 1, by omega, by omega, by go_num, HF2, _, _, _, HT11⟩
          case measure => simp [intOf]; omega
    · have hk41 : k = 41 := by omega
      subst hk41
      have HP2 := fun w' => H2.out w' (HF.out.symm.trans (fstK_end c))
      have HDO := Lib.hid (HO.out c)
      clear H1 H2 CG CO CE HO
      unfold ccells at HDO HP2
      go_upto_region 11 with fail
      refine open_end (by assumption) ?_
      intro Q2 K2 HQ2 hK2
      go_wp2_with (first | (refine load_cf rfl _ rfl w.heap.size rfl #[.int .i64 c.n, .slice c.links c.linksL c.linksC, .int .i64 c.f, .int .i64 c.dmin, .int .i64 c.dmax, .int .i64 c.rho, .int .i64 c.slew, .int .i64 c.round, .int .i64 c.window, .int .i64 c.attend, .int .i64 c.seen, .int .i64 c.hist, .int .i64 c.fly, .int .i64 c.quota, .int .i64 c.body] rfl HT.out.conf ?_) | (refine store_cf rfl _ _ rfl (w.heap.size + 1) #[.int .i64 c.n, .slice c.links c.linksL c.linksC, .int .i64 c.f, .int .i64 c.dmin, .int .i64 c.dmax, .int .i64 c.rho, .int .i64 c.slew, .int .i64 c.round, .int .i64 c.window, .int .i64 c.attend, .int .i64 c.seen, .int .i64 c.hist, .int .i64 c.fly, .int .i64 c.quota, .int .i64 c.body] rfl rfl rfl HDO.out _ HT.out.res rfl ?_))
      refine HQ2.out _ _ ?_
      exact bodyPost_ret (v := .tuple #[.agg #[.int .i64 c.n, .slice c.links c.linksL c.linksC, .int .i64 c.f, .int .i64 c.dmin, .int .i64 c.dmax, .int .i64 c.rho, .int .i64 c.slew, .int .i64 c.round, .int .i64 c.window, .int .i64 c.attend, .int .i64 c.seen, .int .i64 c.hist, .int .i64 c.fly, .int .i64 c.quota, .int .i64 c.body], .bool false]) (results_cf2 rfl _ _ (w.heap.size + 1) #[.int .i64 c.n, .slice c.links c.linksL c.linksC, .int .i64 c.f, .int .i64 c.dmin, .int .i64 c.dmax, .int .i64 c.rho, .int .i64 c.slew, .int .i64 c.round, .int .i64 c.window, .int .i64 c.attend, .int .i64 c.seen, .int .i64 c.hist, .int .i64 c.fly, .int .i64 c.quota, .int .i64 c.body] (.bool false) rfl rfl (HT.out.res.setRow _) rfl) rfl (HP2 _ (below_setRow HT.out.below (g := w.heap.size + 1) (by omega) #[.int .i64 c.n, .slice c.links c.linksL c.linksC, .int .i64 c.f, .int .i64 c.dmin, .int .i64 c.dmax, .int .i64 c.rho, .int .i64 c.slew, .int .i64 c.round, .int .i64 c.window, .int .i64 c.attend, .int .i64 c.seen, .int .i64 c.hist, .int .i64 c.fly, .int .i64 c.quota, .int .i64 c.body]))
end Go.Proofs.Ytbbenfjfdmnpmaa.Bnd
