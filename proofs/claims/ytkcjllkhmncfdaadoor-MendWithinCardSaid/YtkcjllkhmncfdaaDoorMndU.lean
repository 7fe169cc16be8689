/- The statements' helper turn of layer mend (27): its contract. -/
import Derived.Test.YtkcjllkhmncfdaaDoorMndT
import Derived.Deep.CutBlock
namespace Go.Proofs.YtkcjllkhmncfdaaDoor.Mnd
open Go.ChangeShapes Go.WideShapes Go.ChangeAt Go.RowKit
open I64s (Sl OwnL ListPost app_one)
set_option linter.unusedVariables false
set_option linter.unusedSimpArgs false
/-- Within a bound, either way. -/
def In (E : Int) (l : List Int) : Prop := ∀ x ∈ l, -E ≤ x ∧ x ≤ E
theorem in_nil (E : Int) : In E [] := fun x hx => by cases hx
theorem in_snoc {E q : Int} {l : List Int} (h : In E l) (h1 : -E ≤ q) (h2 : q ≤ E) : In E (l ++ [q]) := fun x hx => by
  rcases List.mem_append.1 hx with hx | hx
  · exact h x hx
  · rw [List.mem_singleton.1 hx]; exact ⟨h1, h2⟩
def InR (E : Int) (rs : List Rw) : Prop := ∀ r ∈ rs, In E r.zs
theorem inR_nil (E : Int) : InR E [] := fun x hx => by cases hx
theorem inR_snoc {E : Int} {rs : List Rw} {r : Rw} (h : InR E rs) (h1 : In E r.zs) : InR E (rs ++ [r]) := fun x hx => by
  rcases List.mem_append.1 hx with hx | hx
  · exact h x hx
  · rw [List.mem_singleton.1 hx]; exact h1
def TurnPost (E D : Int) (S : Nat) (w : World) (e : Ending) (w' : World) : Prop :=
  ∃ (ea : Option Addr) (ec : Nat) (rs : List Rw) (da : Option Addr) (dc : Nat) (ds : List Int), e = .returned (.agg #[.int .u64 (S : Int), .slice ea rs.length ec, .slice da ds.length dc]) ∧
    LL w' ea rs ∧ Sl w' da dc ds ∧ InR E rs ∧ In D ds ∧ Below w.heap.size w w'
theorem TS.start (w : World) (a : Wr) (S : Nat) : TS w (wrcells a) S (.slice none 0 0) [] (.slice none 0 0) []
    ((((w.alloc (.cells (wrcells a) 26)).alloc (.cells #[.int .u64 0, .slice none 0 0, .slice none 0 0] 33)).alloc (.cells #[.int .u64 (S : Int), .slice none 0 0, .slice none 0 0] 33))) := by
  have b1 := ((Rw.Blk.new w 26 (wrcells a)).alloc (.cells #[.int .u64 0, .slice none 0 0, .slice none 0 0] 33)).alloc (.cells #[.int .u64 (S : Int), .slice none 0 0, .slice none 0 0] 33)
  have b2 := (Rw.Blk.new (w.alloc (.cells (wrcells a) 26)) 33 #[.int .u64 0, .slice none 0 0, .slice none 0 0]).alloc (.cells #[.int .u64 (S : Int), .slice none 0 0, .slice none 0 0] 33)
  have b3 := Rw.Blk.new ((w.alloc (.cells (wrcells a) 26)).alloc (.cells #[.int .u64 0, .slice none 0 0, .slice none 0 0] 33)) 33 #[.int .u64 (S : Int), .slice none 0 0, .slice none 0 0]
  rw [World.size_alloc] at b2 b3
  rw [World.size_alloc] at b3
  exact ⟨b1, b2, b3, World.ownsRow_nil _ _ _ _, (fun r hr => by cases hr), OwnL.nil _ _, (fun r hr => by cases hr), (((Below.refl _ _).alloc (Nat.le_refl _) _).alloc (by simp) _).alloc (by simp; omega) _, by simp⟩
set_option maxRecDepth 100000 in
set_option maxHeartbeats 4000000 in
theorem turn_any (a : Wr) (S : Nat) (hS : S < 18446744073709551616) (w : World) (h : OkWr w a) :
    Calls Tryd.prog 7 #[wrval a, .int .u64 (S : Int)] w (TurnPost a.e a.d S w) := by
  obtain ⟨e0, e1⟩ := bounds_u16 h.e
  obtain ⟨d0, d1⟩ := bounds_u16 h.d
  have HR := Lib.hid (fun i (hi : i < a.erL) W (hB : Below w.heap.size w W) => (h.er.kept hB).at hi)
  have HD := Lib.hid (fun i (hi : i < a.drL) => h.dr.at hi)
  have HT0 := Lib.hid (TS.start w a S)
  clear h
  obtain ⟨E, D, era, erL, erC, erR, dra, drL, drC, drS⟩ := a
  simp only at e0 e1 d0 d1 HR HD
  unfold wrval wrcells at *
  simp only at HT0 ⊢
  obtain ⟨i1, hi1, hy0, hy1, hy2⟩ := info_parts info_row
  go_enter Tryd.func7, Tryd.ntmps7
  go_upto_region 2 with fail
  rw [show w.heap.size + 1 + 1 = w.heap.size + 2 from rfl]
  generalize (((w.alloc (Obj.cells #[Value.int IntKind.u16 E, Value.int IntKind.u16 D, Value.slice era erL erC, Value.slice dra drL drC] 26)).alloc (Obj.cells #[Value.int IntKind.u64 0, Value.slice none 0 0, Value.slice none 0 0] 33)).alloc (Obj.cells #[Value.int IntKind.u64 (S : Int), Value.slice none 0 0, Value.slice none 0 0] 33)) = W2 at *
  obtain ⟨m, hm1, hm2, hm3⟩ : ∃ m, m ≤ erL ∧ m ≤ 8 ∧ (m = erL ∨ m = 8) := ⟨min erL 8, by omega, by omega, by omega⟩
  go_upto_block 0 with fail
  go_cut [6, 7, 8] from 12 to 59 (fun _ _ _ W => ∃ (ve : Value) (rs : List Rw), Hid (TS w #[.int .u16 E, .int .u16 D, .slice era erL erC, .slice dra drL drC] S ve rs (.slice none 0 0) [] W) ∧ Hid (InR E rs))
  case first =>
    go_wp2_with fail
    go_loopw [6] (fun i wr => ∃ (n : Nat) (ve : Value) (rs : List Rw), n ≤ m ∧ i = .int .i64 n ∧ Hid (TS w #[.int .u16 E, .int .u16 D, .slice era erL erC, .slice dra drL drC] S ve rs (.slice none 0 0) [] wr) ∧ Hid (InR E rs) ∧ rs.length = n) (fun i _ => m - (intOf i).toNat)
    case atStart => exact ⟨0, _, [], Nat.zero_le _, rfl, HT0, Lib.hid (inR_nil E), rfl⟩
    case round =>
      clear HT0
      obtain ⟨n, ve, rs, hn, rfl, HT, HI, hrl⟩ := hrel
      generalize wr = W0 at *
      have c2 : W0.cell? ⟨w.heap.size, 2, none⟩ = some (.slice era erL erC) := HT.out.boxA.cell 2
      by_cases hlt : n < m
      · have d1 : decide ((n : Int) < (erL : Int)) = true := decide_eq_true (by omega)
        have d2 : decide ((n : Int) < 8) = true := decide_eq_true (by omega)
        obtain ⟨b, off, rfl, HRc, HRk⟩ := HR.out n (by omega) W0 HT.out.below
        have HRC := Lib.hid HRc
        have HRK := Lib.hid HRk
        have c3 := HRc W0 (Below.refl _ _)
        generalize erR.getD n default = r at *
        clear HRc HRk
        obtain ⟨l2, hl1, hl2, hl3⟩ : ∃ l2, l2 ≤ r.len ∧ l2 ≤ 8 ∧ (l2 = r.len ∨ l2 = 8) := ⟨min r.len 8, by omega, by omega, by omega⟩
        have HTS := Lib.hid (fun W (hB : Below W0.heap.size W0 W) => HT.out.step hB)
        go_wp2_with fail
        go_loopw [8, 7] (fun kv v W => ∃ (k : Nat) (zs : List Int), k ≤ l2 ∧ kv = .int .i64 k ∧ Hid (OwnL W W0.heap.size v zs) ∧ zs.length = k ∧ Hid (In E zs) ∧ Hid (Below W0.heap.size W0 W)) (fun kv _ _ => l2 - (intOf kv).toNat)
        case atStart => exact ⟨0, [], Nat.zero_le _, rfl, Lib.hid (OwnL.nil _ _), rfl, Lib.hid (in_nil E), Lib.hid (Below.refl _ _)⟩
        case round =>
          obtain ⟨k, zs, hk, rfl, HO, hzl, HIz, HB⟩ := hrel
          generalize wr = W1 at *
          have c2' : W1.cell? ⟨w.heap.size, 2, none⟩ = some (.slice (some ⟨b, off, none⟩) erL erC) := (HTS.out W1 HB.out).boxA.cell 2
          have c0' : W1.cell? ⟨w.heap.size, 0, none⟩ = some (.int .u16 E) := (HTS.out W1 HB.out).boxA.cell 0
          have c3' := HRC.out W1 HB.out
          have q6 : (0 : Int) ≤ (k : Int) := by omega
          by_cases hkl : k < l2
          · obtain ⟨b4, off4, had, hc4, hw4⟩ := HRK.out.at (show k < r.len by omega)
            have c4 := hc4 W1 HB.out
            obtain ⟨z0, z1⟩ := bounds_i32 hw4
            obtain ⟨t1, t2⟩ := IntK.tmod_two (r.zs.getD k 0) E e0
            have d3 : decide ((k : Int) < (r.len : Int)) = true := decide_eq_true (by omega)
            have d4 : decide ((k : Int) < 8) = true := decide_eq_true (by omega)
            have q5 : k < r.len := by omega
            generalize r.zs.getD k 0 = z at *
            obtain ⟨q, hq⟩ : ∃ q, z.tmod (E + 1) = q := ⟨_, rfl⟩
            rw [hq] at t1 t2
            have hown := HO.out
            have hlen : zs.length ≤ 1000 := by omega
            have hbase := HB.out.size
            have HIq := Lib.hid (in_snoc HIz.out t1 t2)
            rw [had] at c3'
            clear hc4 hw4 HRC HRK HTS HT HI HR HD c2 c3 HO HIz had t1 t2
            have y1 : IntKind.i64.wrap z = z := wrap_id (by omega) (by omega)
            have y2 : IntKind.i64.wrap E = E := wrap_id (by omega) (by omega)
            have y3 : IntKind.i64.wrap (E + 1) = E + 1 := wrap_id (by omega) (by omega)
            have y4 : ¬ (E + 1 = 0) := by omega
            go_upto_region 9 with fail
            go_region_law (refine step_num rfl _ _ rfl W0.heap.size _ zs ?_ hown q ?_ hlen hbase ?_; (focus (simp [Act.eval, Act.put])); (focus (simp [Act.eval, Act.put])); intro v' w6 hown' hB6 _ _)
            all_goals (
              have HO6 := Lib.hid hown'
              have HB6 := Lib.hid (HB.out.trans hB6)
              clear hown' hB6 hown
              go_wp2_with fail
              go_roundw
              case rel => exact ⟨k + 1, zs ++ [q], by omega, by go_num, HO6, by rw [List.length_append]; simp only [List.length_singleton]; omega, HIq, HB6⟩
              case measure => simp [intOf]; omega)
          · obtain rfl : k = l2 := by omega
            have HTE := Lib.hid (HTS.out W1 HB.out)
            obtain ⟨ad7, cap7, rfl, -⟩ := Own.shape HO.out
            have c5 : W1.cell? ⟨w.heap.size + 2, 1, none⟩ = some ve := HTE.out.boxT.cell 1
            have hrow := HTE.out.ownE
            rw [hrl] at hrow
            have HR7 : Hid (OwnL W1 (w.heap.size + 3) (rowV ⟨ad7, cap7, zs⟩) zs) := Lib.hid (by
              have := Own.mono HO.out (show w.heap.size + 3 ≤ W0.heap.size from HT.out.size)
              exact this)
            have HAp : Hid (∀ v' w4, w4.ownsRow (w.heap.size + 3) 27 1 v' (n + 1) (rs.map rowV ++ [.slice ad7 k cap7]) → (W1.alloc (.cells #[.slice ad7 k cap7] 27)).grownBy w4 ve.ownBlock →
                Rw.Blk w4 (w.heap.size + 2) 33 #[.int .u64 (S : Int), ve, .slice none 0 0] ∧ Hid (TS w #[.int .u16 E, .int .u16 D, .slice (some ⟨b, off, none⟩) erL erC, .slice dra drL drC] S v' (rs ++ [⟨ad7, cap7, zs⟩]) (.slice none 0 0) [] (w4.setCell ⟨w.heap.size + 2, 1, none⟩ v'))) := Lib.hid (fun v' w4 ho hg => by
              have := HTE.out.appE (r := ⟨ad7, cap7, zs⟩) rfl HR7.out (v' := v') (by rw [hrl]; show w4.ownsRow _ _ 1 v' (n + 1) (rs.map rowV ++ [.slice ad7 zs.length cap7]); rw [hzl]; exact ho) hg
              exact ⟨this.1, Lib.hid this.2⟩)
            have HI7 := Lib.hid (inR_snoc (r := ⟨ad7, cap7, zs⟩) HI.out HIz.out)
            have hl7 : (rs ++ [(⟨ad7, cap7, zs⟩ : Rw)]).length = n + 1 := by rw [List.length_append, hrl]; rfl
            have hsz := HTE.out.size
            have hn8 : n < 8 := by omega
            clear HRC HRK HTS HT HI HO HIz c2 c3 HTE HR7
            rcases (show ¬ (k < r.len) ∨ (k < r.len ∧ ¬ (k < 8)) by omega) with hx | ⟨hx, hx8⟩
            · have d3 : decide ((k : Int) < (r.len : Int)) = false := decide_eq_false (by omega)
              go_wp2_with (at_builtin; refine Own.wpList_append2 _ rfl _ _ 31 rfl (w.heap.size + 3) 27 i1 (.slice none 0 0) 1 24 Tryd.underlying31 hi1 hy0 hy1 hy2 rfl (by decide) ve n (rs.map rowV) rfl (World.ownsRow.alloc hrow _) ⟨W1.heap.size, 0, none⟩ 1 1 [.slice ad7 k cap7] rfl rfl (cell_one_new _ _ _) (by simp [Value.oneCell']) (by unfold maxLen; omega) (by omega) (by simp; omega) ?_; intro v' w4 hown' hgrow _ _; obtain ⟨g', cap', rfl⟩ := ownsRow_succ hown'; obtain ⟨hbT, HTN⟩ := HAp.out _ w4 hown' hgrow; have f1 := hbT.free 1; have c6 := hbT.cell 1)
              clear hbT f1 c6 hgrow hown' HAp
              go_roundw
              case rel => exact ⟨n + 1, _, _, by omega, by go_num, HTN, HI7, hl7⟩
              case measure => simp [intOf]; omega
            · have d3 : decide ((k : Int) < (r.len : Int)) = true := decide_eq_true (by omega)
              have d4 : decide ((k : Int) < 8) = false := decide_eq_false (by omega)
              go_wp2_with (at_builtin; refine Own.wpList_append2 _ rfl _ _ 31 rfl (w.heap.size + 3) 27 i1 (.slice none 0 0) 1 24 Tryd.underlying31 hi1 hy0 hy1 hy2 rfl (by decide) ve n (rs.map rowV) rfl (World.ownsRow.alloc hrow _) ⟨W1.heap.size, 0, none⟩ 1 1 [.slice ad7 k cap7] rfl rfl (cell_one_new _ _ _) (by simp [Value.oneCell']) (by unfold maxLen; omega) (by omega) (by simp; omega) ?_; intro v' w4 hown' hgrow _ _; obtain ⟨g', cap', rfl⟩ := ownsRow_succ hown'; obtain ⟨hbT, HTN⟩ := HAp.out _ w4 hown' hgrow; have f1 := hbT.free 1; have c6 := hbT.cell 1)
              clear hbT f1 c6 hgrow hown' HAp
              go_roundw
              case rel => exact ⟨n + 1, _, _, by omega, by go_num, HTN, HI7, hl7⟩
              case measure => simp [intOf]; omega
      · obtain rfl : n = m := by omega
        have HTE := Lib.hid HT.out
        clear HR HT
        rcases (show ¬ (n < erL) ∨ (n < erL ∧ ¬ (n < 8)) by omega) with hx | ⟨hx, hx8⟩
        · have d1 : decide ((n : Int) < (erL : Int)) = false := decide_eq_false (by omega)
          go_wp2_with fail
          go_meet
          case rel => exact ⟨ve, rs, HTE, HI⟩
        · have d1 : decide ((n : Int) < (erL : Int)) = true := decide_eq_true (by omega)
          have d2 : decide ((n : Int) < 8) = false := decide_eq_false (by omega)
          go_wp2_with fail
          go_meet
          case rel => exact ⟨ve, rs, HTE, HI⟩
  case rest =>
    obtain ⟨ve, rs, HT, HI⟩ := hcut
    generalize wc = W0 at *
    clear HR HT0 hm1 hm2 hm3
    obtain ⟨m3, hm4, hm5, hm6⟩ : ∃ m3, m3 ≤ drL ∧ m3 ≤ 8 ∧ (m3 = drL ∨ m3 = 8) := ⟨min drL 8, by omega, by omega, by omega⟩
    have HTx : Hid (∃ vd ds, TS w #[.int .u16 E, .int .u16 D, .slice era erL erC, .slice dra drL drC] S ve rs vd ds W0 ∧ ds.length = 0 ∧ In D ds) := Lib.hid ⟨_, [], HT.out, rfl, in_nil D⟩
    clear HT
    go_upto_block 4 with fail
    go_cut [9] from 60 to 86 (fun _ W => Hid (∃ vd ds, TS w #[.int .u16 E, .int .u16 D, .slice era erL erC, .slice dra drL drC] S ve rs vd ds W ∧ In D ds))
    case first =>
      go_wp2_with fail
      go_loopw [9] (fun jv W => ∃ (j : Nat), j ≤ m3 ∧ jv = .int .i64 j ∧ Hid (∃ vd ds, TS w #[.int .u16 E, .int .u16 D, .slice era erL erC, .slice dra drL drC] S ve rs vd ds W ∧ ds.length = j ∧ In D ds)) (fun jv _ => m3 - (intOf jv).toNat)
      case atStart => exact ⟨0, Nat.zero_le _, rfl, HTx⟩
      case round =>
        clear HTx
        obtain ⟨j, hj, rfl, HX⟩ := hrel
        generalize wr = W1 at *
        obtain ⟨vd, ds, hTS, hdl, hId⟩ := HX.out
        have HT := Lib.hid hTS
        have HId := Lib.hid hId
        clear hTS hId HX
        have k3 : W1.cell? ⟨w.heap.size, 3, none⟩ = some (.slice dra drL drC) := HT.out.boxA.cell 3
        have k1 : W1.cell? ⟨w.heap.size, 1, none⟩ = some (.int .u16 D) := HT.out.boxA.cell 1
        have q6 : (0 : Int) ≤ (j : Int) := by omega
        by_cases hjl : j < m3
        · obtain ⟨b4, off4, rfl, hc4, hw4⟩ := HD.out j (by omega)
          have c4 := hc4 W1 HT.out.below
          obtain ⟨z0, z1⟩ := bounds_i32 hw4
          obtain ⟨t1, t2⟩ := IntK.tmod_two (drS.getD j 0) D d0
          have d3 : decide ((j : Int) < (drL : Int)) = true := decide_eq_true (by omega)
          have d4 : decide ((j : Int) < 8) = true := decide_eq_true (by omega)
          have q5 : j < drL := by omega
          generalize drS.getD j 0 = z at *
          obtain ⟨q, hq⟩ : ∃ q, z.tmod (D + 1) = q := ⟨_, rfl⟩
          rw [hq] at t1 t2
          have hown := HT.out.ownD
          have hlen : ds.length ≤ 1000 := by omega
          have hbase := HT.out.size
          have HIq := Lib.hid (in_snoc HId.out t1 t2)
          have y1 : IntKind.i64.wrap z = z := wrap_id (by omega) (by omega)
          have y2 : IntKind.i64.wrap D = D := wrap_id (by omega) (by omega)
          have y3 : IntKind.i64.wrap (D + 1) = D + 1 := wrap_id (by omega) (by omega)
          have y4 : ¬ (D + 1 = 0) := by omega
          have k5 : W1.cell? ⟨w.heap.size + 2, 2, none⟩ = some vd := HT.out.boxT.cell 2
          have g0 : (W1.alloc (.cells #[.int .i64 q] 2)).cell? ⟨w.heap.size + 2, 2, none⟩ = some vd := (HT.out.boxT.alloc _).cell 2
          have HQ1 : Hid ((ds ++ [q]).length = j + 1) := Lib.hid (by rw [List.length_append, hdl]; rfl)
          have HAp : Hid (∀ v' w4, OwnL w4 (w.heap.size + 3) v' (ds ++ [q]) → Below (w.heap.size + 3) W1 w4 → (∀ k, k < W1.heap.size → some k ≠ vd.ownBlock → w4.heap[k]? = W1.heap[k]?) → (v'.ownBlock = vd.ownBlock ∨ ∀ k, v'.ownBlock = some k → W1.heap.size ≤ k) →
              Rw.Blk w4 (w.heap.size + 2) 33 #[.int .u64 (S : Int), ve, vd] ∧ Hid (∃ vd ds, TS w #[.int .u16 E, .int .u16 D, .slice era erL erC, .slice (some ⟨b4, off4, none⟩) drL drC] S ve rs vd ds (w4.setCell ⟨w.heap.size + 2, 2, none⟩ v') ∧ ds.length = j + 1 ∧ In D ds)) := Lib.hid (fun v' w4 h1 h2 h3 h4 => by
            have := HT.out.appD h1 h2 h3 h4
            exact ⟨this.1, Lib.hid ⟨v', _, this.2, by rw [List.length_append, hdl]; rfl, HIq.out⟩⟩)
          clear hc4 hw4 HD HT HId HIq t1 t2 HI
          go_upto_region 14 with fail
          go_region_law (refine step_num rfl _ _ rfl (w.heap.size + 3) vd ds ?_ hown q ?_ hlen hbase ?_; (focus (simp [Act.eval, Act.put])); (focus (simp [Act.eval, Act.put])); intro v' w6 hown' hB6 hk6 hb6; obtain ⟨ad', cap', rfl, -⟩ := Own.shape hown'; obtain ⟨hbT, HTN⟩ := HAp.out _ w6 hown' hB6 hk6 hb6; have g1 := hbT.cell 2; have g1f := hbT.free 2)
          all_goals (
            clear hbT g1 g1f hown' hB6 hk6 hb6 HAp hown k5 g0
            go_wp2_with fail
            go_roundw
            case rel => exact ⟨j + 1, by omega, by go_num, by rw [HQ1.out] at HTN; exact HTN⟩
            case measure => simp [intOf]; omega)
        · obtain rfl : j = m3 := by omega
          have HTE : Hid (∃ vd ds, TS w #[.int .u16 E, .int .u16 D, .slice era erL erC, .slice dra drL drC] S ve rs vd ds W1 ∧ In D ds) := Lib.hid ⟨vd, ds, HT.out, HId.out⟩
          clear HD HT HId HI
          rcases (show ¬ (j < drL) ∨ (j < drL ∧ ¬ (j < 8)) by omega) with hx | ⟨hx, hx8⟩
          · have d1 : decide ((j : Int) < (drL : Int)) = false := decide_eq_false (by omega)
            go_wp2_with fail
            go_meet
            case rel => exact HTE
          · have d1 : decide ((j : Int) < (drL : Int)) = true := decide_eq_true (by omega)
            have d2 : decide ((j : Int) < 8) = false := decide_eq_false (by omega)
            go_wp2_with fail
            go_meet
            case rel => exact HTE
    case rest =>
      have HX := hcut
      clear hcut HTx HD
      generalize wc = W1 at *
      obtain ⟨vd, ds, hTS, hId⟩ := HX.out
      have HT := Lib.hid hTS
      have HId := Lib.hid hId
      clear hTS hId HX
      obtain ⟨ea, ec, rfl, hLL⟩ := HT.out.rows
      obtain ⟨da, dc, rfl, -⟩ := Own.shape HT.out.ownD
      have t0 : W1.cell? ⟨w.heap.size + 2, 0, none⟩ = some (.int .u64 (S : Int)) := HT.out.boxT.cell 0
      have t1 : W1.cell? ⟨w.heap.size + 2, 1, none⟩ = some (.slice ea rs.length ec) := HT.out.boxT.cell 1
      have t2 : W1.cell? ⟨w.heap.size + 2, 2, none⟩ = some (.slice da ds.length dc) := HT.out.boxT.cell 2
      have r0 : W1.cell? ⟨w.heap.size + 1, 0, none⟩ = some (.int .u64 0) := HT.out.boxR.cell 0
      have r1 : W1.cell? ⟨w.heap.size + 1, 1, none⟩ = some (.slice none 0 0) := HT.out.boxR.cell 1
      have r2 : W1.cell? ⟨w.heap.size + 1, 2, none⟩ = some (.slice none 0 0) := HT.out.boxR.cell 2
      have f0 := HT.out.boxR.free 0
      have f1 := HT.out.boxR.free 1
      have f2 := HT.out.boxR.free 2
      have HDn := Lib.hid (HT.out.done rfl)
      clear HT hLL
      go_wp2_with fail
      obtain ⟨hb, h1, h2, h3⟩ := HDn.out
      refine bodyPost_ret (v := .agg #[.int .u64 (S : Int), .slice ea rs.length ec, .slice da ds.length dc]) (results_cell_row rfl _ _ (w.heap.size + 1) 33 _ (0, 0) _ rfl hb Tryd.underlying33 rfl (by kernel_rfl)) rfl ?_
      exact ⟨ea, ec, rs, da, dc, ds, rfl, h1, h2, HI.out, HId.out, h3⟩
end Go.Proofs.YtkcjllkhmncfdaaDoor.Mnd
