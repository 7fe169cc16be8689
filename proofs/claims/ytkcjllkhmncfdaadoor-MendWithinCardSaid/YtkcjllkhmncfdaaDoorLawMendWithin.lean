/- Behind a turn whose errors are within bounds each clock is between the least and the greatest of those that it went by, but for the bounds. -/
import Derived.Test.YtkcjllkhmncfdaaDoorRows
import Derived.Test.YtkcjllkhmncfdaaDoorTie
import Derived.Test.YtkcjllkhmncfdaaDoorCards
import Derived.SevenTiedAt
import Derived.LaidMore
import Derived.Stop.Joined
import Derived.WalkKit
import Derived.ProofKit
import Derived.OpenShut
import Derived.ShutString
import Derived.ChangeOld
import Derived.Below
import Derived.Test.YtkcjllkhmncfdaaDoorMndF
import Derived.Deep.CutBlock
namespace Go.Proofs.YtkcjllkhmncfdaaDoor.lawMendWithin
open Go.ChangeShapes Go.WideShapes Go.ChangeAt Go.RowKit
open Go.ChangeMaps (open_string shut_string)
set_option linter.unusedVariables false

theorem own : ownKnob Tryd.prog.godebug = none := by kernel_rfl
theorem laidOut : laidOutB Tryd.prog = true := by kernel_rfl

/-- What the walk is told of a slice of integers that came in. -/
def IsRow (k : IntKind) (w : World) (a : Option Addr) (len cap : Nat) (zs : List Int) : Prop :=
  (a = none ∧ len = 0 ∧ cap = 0 ∧ zs = []) ∨
  ∃ x, a = some x ∧ len ≤ cap ∧ cap ≤ maxLen ∧ zs.length = cap ∧ (∀ i, i < zs.length → w.cell? (x.add i) = some (.int k (zs.getD i 0))) ∧ ∀ n ∈ zs, (Lit.int k n).wf = true

/-! The walk: the Go text returns true and writes nothing that was there. -/
set_option linter.unusedSimpArgs false in
set_option maxRecDepth 100000 in
set_option maxHeartbeats 4000000 in
theorem walk (a0 : Option Addr) (len0 cap0 : Nat) (z0 : List Int) (a1 : Int) (a2 : Mnd.Wr) (w : World) (w0 : IsRow .i32 w a0 len0 cap0 z0) (w1 : (Lit.int .u8 a1).wf = true) (w2 : Mnd.OkWr w a2) (hT : Nodes.Tabs w) :
    Calls Tryd.prog 4 #[.slice a0 len0 cap0, .int .u8 a1, Mnd.wrval a2] w fun e w' => e = .returned (.bool true) ∧ Below w.heap.size w w' := by
  obtain ⟨l1, u1⟩ := bounds_u8 w1
  obtain ⟨S, rfl⟩ := Int.eq_ofNat_of_zero_le l1
  have hS64 : S < 18446744073709551616 := by omega
  have HLA := Lib.hid (fun i (hi : i < len0) => IntK.RowK.at w0 hi)
  have HK := Lib.hid (fun W (hB : Below w.heap.size w W) => Mnd.OkWr.later w2 hB)
  have HT := Lib.hid hT
  obtain ⟨e0, e1⟩ := bounds_u16 w2.e
  obtain ⟨d0, d1⟩ := bounds_u16 w2.d
  obtain ⟨m, hm1, hm2, hm3⟩ : ∃ m, m ≤ len0 ∧ m ≤ 8 ∧ (m = len0 ∨ m = 8) := ⟨min len0 8, by omega, by omega, by omega⟩
  obtain ⟨w0', hw0⟩ : ∃ w0', Hid (w0' = w.alloc (.cells (Mnd.wrcells a2) 26)) := ⟨_, Lib.hid rfl⟩
  obtain ⟨hB0, hbox⟩ := Mnd.wr_box w w0' a2 hw0.out
  have HB0 := Lib.hid hB0
  have HBX := Lib.hid hbox
  clear w0 w1 w2 hT hB0 hbox
  unfold Mnd.wrval Mnd.wrcells at *
  go_enter Tryd.func4, Tryd.ntmps4
  go_upto_region 1 with fail
  rw [← hw0.out]
  go_upto_block 0 with fail
  go_cut [7, 8] from 18 to 35 (fun v _ W => ∃ (ad : Option Addr) (cap : Nat), v = .slice ad m cap ∧ Hid (∃ A : List Int, I64s.Sl W ad cap A ∧ A.length = m ∧ ∀ x ∈ A, -2147483648 ≤ x ∧ x ≤ 2147483647) ∧ Hid (Below w0'.heap.size w0' W))
  case first =>
    go_wp2_with fail
    go_loopw [8, 7] (fun iv v W => ∃ (k : Nat) (A : List Int), k ≤ m ∧ iv = .int .i64 k ∧ Hid (I64s.OwnL W w0'.heap.size v A) ∧ A.length = k ∧ Hid (∀ x ∈ A, -2147483648 ≤ x ∧ x ≤ 2147483647) ∧ Hid (Below w0'.heap.size w0' W)) (fun iv _ _ => m - (intOf iv).toNat)
    case atStart => exact ⟨0, [], Nat.zero_le _, rfl, Lib.hid (I64s.OwnL.nil _ _), rfl, Lib.hid (fun x hx => by cases hx), Lib.hid (Below.refl _ _)⟩
    case round =>
      obtain ⟨k, A, hk, rfl, HO, hAl, HA, HB⟩ := hrel
      generalize wr = W1 at *
      have q6 : (0 : Int) ≤ (k : Int) := by omega
      by_cases hkm : k < m
      · obtain ⟨b, off, had, hc, hwf⟩ := HLA.out k (by omega)
        have c1 := hc W1 (HB0.out.trans (HB.out.mono HB0.out.size))
        obtain ⟨z0', z1'⟩ := bounds_i32 hwf
        have d3 : decide ((k : Int) < (len0 : Int)) = true := decide_eq_true (by omega)
        have d4 : decide ((k : Int) < 8) = true := decide_eq_true (by omega)
        have q5 : k < len0 := by omega
        generalize z0.getD k 0 = z at *
        have hown := HO.out
        have hlen : A.length < 1099511627776 := by omega
        have hsz := HB.out.size
        have HA2 : Hid (∀ x ∈ A ++ [z], -2147483648 ≤ x ∧ x ≤ 2147483647) := Lib.hid (fun x hx => by
          rcases List.mem_append.1 hx with hx | hx
          · exact HA.out x hx
          · rw [List.mem_singleton.1 hx]; exact ⟨z0', z1'⟩)
        have y1 : IntKind.i64.wrap z = z := Mnd.wrap_id (by omega) (by omega)
        subst had
        clear hc hwf HLA HK HT HBX HO HA
        go_wp2_with (at_builtin; refine I64s.app_one rfl _ _ rfl w0'.heap.size _ _ rfl hown z rfl hlen hsz ?_; intro v' w4 hown' hB4 _ _)
        have HO4 := Lib.hid hown'
        have HB4 := Lib.hid (HB.out.trans hB4)
        clear hown' hB4
        go_roundw
        case rel => exact ⟨k + 1, A ++ [z], by omega, by go_num, HO4, by rw [List.length_append]; simp only [List.length_singleton]; omega, HA2, HB4⟩
        case measure => simp [intOf]; omega
      · obtain rfl : k = m := by omega
        obtain ⟨ad, cap, rfl, -⟩ := Own.shape HO.out
        have HE : Hid (∃ A : List Int, I64s.Sl W1 ad cap A ∧ A.length = k ∧ ∀ x ∈ A, -2147483648 ≤ x ∧ x ≤ 2147483647) := Lib.hid ⟨A, HO.out.sl, hAl, HA.out⟩
        rw [hAl]
        clear HLA HK HT HBX HO HA
        rcases (show ¬ (k < len0) ∨ (k < len0 ∧ ¬ (k < 8)) by omega) with hx | ⟨hx, hx8⟩
        · have d3 : decide ((k : Int) < (len0 : Int)) = false := decide_eq_false (by omega)
          go_wp2_with fail
          go_meet
          case rel => exact ⟨ad, cap, rfl, HE, HB⟩
        · have d3 : decide ((k : Int) < (len0 : Int)) = true := decide_eq_true (by omega)
          have d4 : decide ((k : Int) < 8) = false := decide_eq_false (by omega)
          go_wp2_with fail
          go_meet
          case rel => exact ⟨ad, cap, rfl, HE, HB⟩
  case rest =>
    obtain ⟨ad, cap, rfl, HE, HB⟩ := hcut
    generalize wc = W1 at *
    obtain ⟨A, hsl, hAl, hA⟩ := HE.out
    have HS := Lib.hid hsl
    have HA := Lib.hid hA
    have HBW := Lib.hid (HB0.out.trans (HB.out.mono HB0.out.size))
    have HX : Hid (∀ W, Below W1.heap.size W1 W → Below w.heap.size w W ∧ I64s.Sl W ad cap A ∧ Mnd.OkWr W a2 ∧ Nodes.Tabs W ∧ W.cell? ⟨w.heap.size, 0, none⟩ = some (.int .u16 a2.e) ∧ W.cell? ⟨w.heap.size, 1, none⟩ = some (.int .u16 a2.d) ∧ W.cell? ⟨w.heap.size, 2, none⟩ = some (.slice a2.er a2.erL a2.erC) ∧ W.cell? ⟨w.heap.size, 3, none⟩ = some (.slice a2.dr a2.drL a2.drC)) := Lib.hid (fun W hW => by
      have h1 := HBW.out.trans (hW.mono HBW.out.size)
      obtain ⟨c0, c1, c2, c3⟩ := HBX.out W (HB.out.trans (hW.mono HB.out.size))
      exact ⟨h1, hsl.below hW, HK.out W h1, HT.out.below h1, c0, c1, c2, c3⟩)
    clear HLA HK HT HE HB HB0 HBX hsl hA hw0 hm1 hm3 HBW HS
    obtain ⟨-, -, hok, hT1, c0, c1, c2, c3⟩ := HX.out W1 (Below.refl _ _)
    have C1 := Lib.hid (Mnd.turn_any a2 S hS64 W1 hok)
    unfold Mnd.TurnPost Mnd.wrval Mnd.wrcells at C1
    clear hok hT1
    obtain ⟨f, hf⟩ : ∃ f : Int, f = (S : Int) % 4 := ⟨_, rfl⟩
    have C2' : Hid (∀ w2 ea ec rs da dc ds, Below W1.heap.size W1 w2 → Mnd.LL w2 ea rs → I64s.Sl w2 da dc ds → Calls Tryd.prog 6 #[.slice ad m cap, .agg #[.int .u64 (S : Int), .slice ea rs.length ec, .slice da ds.length dc], .int .i64 f] w2
        fun e w3 => ∃ ad3 cap3, e = .returned (.slice ad3 m cap3) ∧ I64s.Sl w3 ad3 cap3 (Mnd.oneL A S (rs.map Mnd.Rw.zs) ds f) ∧ Below w2.heap.size w2 w3) := Lib.hid (fun w2 ea ec rs da dc ds hB hll hsl => by
      obtain ⟨-, hA2, -, hT2, -, -, -, -⟩ := HX.out w2 hB
      have hAo : (Mnd.oneL A S (rs.map Mnd.Rw.zs) ds f).length = m := by rw [Mnd.oneL_len, hAl]
      have := Mnd.one_any ad cap A S ea ec rs da dc ds f w2 hA2 hll hsl hS64 (by omega) hT2
      rw [hAl] at this
      refine this.mono ?_
      rintro e w3 ⟨ad3, cap3, rfl, ho, hb⟩
      exact ⟨ad3, cap3, by rw [hAo], ho.sl, hb⟩)
    rw [hf] at C2'
    go_wp2_with fail
    refine (C1.out).mono ?_; rintro e w2 ⟨ea, ec, rs, da, dc, ds, rfl, hll, hsl, hE, hD, hB2⟩
    have C2 := Lib.hid (C2'.out w2 ea ec rs da dc ds hB2 hll hsl)
    have HB2 := Lib.hid hB2
    have HEr := Lib.hid hE
    have HDr := Lib.hid hD
    clear hll hsl hE hD hB2 C1 C2' c0 c1 c2 c3
    go_wp2_with fail
    refine (C2.out).mono ?_; rintro e w3 ⟨ad3, cap3, rfl, hs3, hB3⟩
    have HB3 := Lib.hid (HB2.out.trans (hB3.mono HB2.out.size))
    have HZ : Hid (∀ x y b, Mnd.WI A S m x y b → b = true → ∀ p, p < m → x - (a2.e + a2.d) ≤ (Mnd.oneL A S (rs.map Mnd.Rw.zs) ds ((S : Int) % 4)).getD p 0 ∧ (Mnd.oneL A S (rs.map Mnd.Rw.zs) ds ((S : Int) % 4)).getD p 0 ≤ y + (a2.e + a2.d)) := Lib.hid (fun x y b h hb p hp =>
      Mnd.within_end hAl (by omega) HA.out ⟨e0, e1⟩ ⟨d0, d1⟩ HEr.out HDr.out h hb hp)
    have hZl : (Mnd.oneL A S (rs.map Mnd.Rw.zs) ds ((S : Int) % 4)).length = m := by rw [Mnd.oneL_len, hAl]
    have HS3 := Lib.hid (fun k (hk : k < m) => hs3.at (k := k) (by omega))
    have HAb : Hid (∀ k, k < m → -2147483648 ≤ A.getD k 0 ∧ A.getD k 0 ≤ 2147483647) := Lib.hid (fun k hk => by
      have e : A.getD k 0 = A[k] := by simp [List.getD, show k < A.length by omega]
      rw [e]; exact HA.out _ (List.getElem_mem _))
    obtain ⟨hBw3, hA3, -, hT3, k0, k1, -, -⟩ := HX.out w3 HB3.out
    have HAc := Lib.hid (fun k (hk : k < m) => hA3.at (k := k) (by omega))
    have HBw := Lib.hid hBw3
    have C4 := Lib.hid (Mnd.works27_any w3 hT3)
    have CH : Hid (∀ k : Nat, Calls Tryd.prog 10 #[.int .u64 (S : Int), .int .i64 (k : Int)] w3 fun e w' => e = .returned (.bool (S.testBit k)) ∧ w3 = w') := Lib.hid (fun k => by
      have := Nodes.rhas_any S hS64 (k : Int) w3
      rwa [Nodes.has_nat S k hS64] at this)
    generalize Mnd.oneL A S (rs.map Mnd.Rw.zs) ds ((S : Int) % 4) = Z at *
    clear hs3 hB3 HB2 HB3 hZl hBw3 hA3 hT3 C2 HX HEr HDr HA hAl
    have nem : ((m : Int) != (m : Int)) = false := bne_self_eq_false _
    have HQ0 := Lib.hid (Mnd.WI.start A S)
    obtain ⟨E, D, era, erL, erC, erR, dra, drL, drC, drS⟩ := a2
    simp only at e0 e1 d0 d1 HZ k0 k1
    go_wp2_with fail
    go_loopw [52, 10, 11, 12] (fun i lo hi is W => ∃ (k : Nat) (x y : Int) (b : Bool), k ≤ m ∧ i = .int .i64 k ∧ lo = .int .i64 x ∧ hi = .int .i64 y ∧ is = .bool b ∧ Hid (Mnd.WI A S k x y b) ∧ Hid (-2147483648 ≤ x ∧ x ≤ 2147483647 ∧ -2147483648 ≤ y ∧ y ≤ 2147483647) ∧ Hid (W = w3)) (fun i _ _ _ _ => m - (intOf i).toNat)
    case atStart => exact ⟨0, 0, 0, false, Nat.zero_le _, rfl, rfl, rfl, rfl, HQ0, Lib.hid (by omega), Lib.hid (by trivial)⟩
    case round =>
      clear HQ0
      obtain ⟨k, x, y, b, hk, rfl, rfl, rfl, rfl, HI, HXY, HW⟩ := hrel
      have hW := HW.out
      subst hW
      by_cases hkm : k < m
      · obtain ⟨bl, off, rfl, hcell⟩ := HAc.out k hkm
        have c1 := hcell wr (Below.refl _ _)
        obtain ⟨z0', z1'⟩ := HAb.out k hkm
        have CK := Lib.hid (CH.out k)
        obtain ⟨x1, x2, y1, y2⟩ := HXY.out
        have HIs := Lib.hid (fun (h : S.testBit k = false) => HI.out.skip h)
        have HIm := Lib.hid (fun x' y' (h : S.testBit k = true) h1 h2 h3 => HI.out.more (x' := x') (y' := y') h h1 h2 h3)
        clear hcell HAc HAb CH HI HXY C4 HS3 HZ HBw
        generalize A.getD k 0 = z at *
        generalize htb : S.testBit k = t at *
        cases t with
        | false =>
          go_wp2_with fail
          refine (CK.out).mono ?_; rintro e w' ⟨rfl, rfl⟩
          go_wp2_with fail
          go_roundw
          case rel => exact ⟨k + 1, x, y, b, by omega, by go_num, rfl, rfl, rfl, Lib.hid (HIs.out (by trivial)), Lib.hid ⟨x1, x2, y1, y2⟩, Lib.hid (by trivial)⟩
          case measure => simp [intOf]; omega
        | true =>
          cases b with
          | false =>
            go_wp2_with fail
            refine (CK.out).mono ?_; rintro e w' ⟨rfl, rfl⟩
            go_wp2_with fail
            go_roundw
            case rel => exact ⟨k + 1, z, z, true, by omega, by go_num, rfl, rfl, rfl, Lib.hid (HIm.out z z (by trivial) (by omega) (by omega) (fun h => by cases h)), Lib.hid (by omega), Lib.hid (by trivial)⟩
            case measure => simp [intOf]; omega
          | true =>
            by_cases hzx : z < x
            · have q1 : decide (z < x) = true := decide_eq_true hzx
              by_cases hyz : y < z
              · have q2 : decide (y < z) = true := decide_eq_true hyz
                go_wp2_with fail
                refine (CK.out).mono ?_; rintro e w' ⟨rfl, rfl⟩
                go_wp2_with fail
                go_roundw
                case rel => exact ⟨k + 1, z, z, true, by omega, by go_num, rfl, rfl, rfl, Lib.hid (HIm.out z z (by trivial) (by omega) (by omega) (fun _ => by omega)), Lib.hid (by omega), Lib.hid (by trivial)⟩
                case measure => simp [intOf]; omega
              · have q2 : decide (y < z) = false := decide_eq_false hyz
                go_wp2_with fail
                refine (CK.out).mono ?_; rintro e w' ⟨rfl, rfl⟩
                go_wp2_with fail
                go_roundw
                case rel => exact ⟨k + 1, z, y, true, by omega, by go_num, rfl, rfl, rfl, Lib.hid (HIm.out z y (by trivial) (by omega) (by omega) (fun _ => by omega)), Lib.hid (by omega), Lib.hid (by trivial)⟩
                case measure => simp [intOf]; omega
            · have q1 : decide (z < x) = false := decide_eq_false hzx
              by_cases hyz : y < z
              · have q2 : decide (y < z) = true := decide_eq_true hyz
                go_wp2_with fail
                refine (CK.out).mono ?_; rintro e w' ⟨rfl, rfl⟩
                go_wp2_with fail
                go_roundw
                case rel => exact ⟨k + 1, x, z, true, by omega, by go_num, rfl, rfl, rfl, Lib.hid (HIm.out x z (by trivial) (by omega) (by omega) (fun _ => by omega)), Lib.hid (by omega), Lib.hid (by trivial)⟩
                case measure => simp [intOf]; omega
              · have q2 : decide (y < z) = false := decide_eq_false hyz
                go_wp2_with fail
                refine (CK.out).mono ?_; rintro e w' ⟨rfl, rfl⟩
                go_wp2_with fail
                go_roundw
                case rel => exact ⟨k + 1, x, y, true, by omega, by go_num, rfl, rfl, rfl, Lib.hid (HIm.out x y (by trivial) (by omega) (by omega) (fun _ => by omega)), Lib.hid (by omega), Lib.hid (by trivial)⟩
                case measure => simp [intOf]; omega
      · obtain rfl : k = m := by omega
        obtain ⟨x1, x2, y1, y2⟩ := HXY.out
        have HZb := Lib.hid (HZ.out x y b HI.out)
        clear HZ HI HXY CH HAc HAb HW hkm hk
        have v1 : IntKind.i64.wrap E = E := Mnd.wrap_id (by omega) (by omega)
        have v2 : IntKind.i64.wrap D = D := Mnd.wrap_id (by omega) (by omega)
        generalize wr = w3 at *
        go_wp2_with fail
        go_loopw [87] (fun i W => ∃ (j : Nat), j ≤ k ∧ i = .int .i64 j ∧ Hid (W = w3)) (fun i _ => k - (intOf i).toNat)
        case atStart => exact ⟨0, Nat.zero_le _, rfl, Lib.hid (by trivial)⟩
        case round =>
          obtain ⟨j, hj, rfl, HW⟩ := hrel
          have hW := HW.out
          subst hW
          by_cases hjk : j < k
          · obtain ⟨bl, off, rfl, hcell⟩ := HS3.out j hjk
            have c1 := hcell wr (Below.refl _ _)
            cases b with
            | false =>
              clear hcell HS3 HZb C4 HBw
              generalize Z.getD j 0 = z at *
              go_wp2_with fail
              go_roundw
              case rel => exact ⟨j + 1, by omega, by go_num, Lib.hid (by trivial)⟩
              case measure => simp [intOf]; omega
            | true =>
              obtain ⟨b1, b2⟩ := HZb.out rfl j hjk
              clear hcell HS3 HZb C4 HBw
              generalize Z.getD j 0 = z at *
              have q1 : decide (z < x - (E + D)) = false := decide_eq_false (by omega)
              have q2 : decide (y + (E + D) < z) = false := decide_eq_false (by omega)
              go_wp2_with fail
              go_roundw
              case rel => exact ⟨j + 1, by omega, by go_num, Lib.hid (by trivial)⟩
              case measure => simp [intOf]; omega
          · obtain rfl : j = k := by omega
            go_wp2_with fail
            refine (C4.out).mono ?_; rintro e w5 ⟨rfl, hB5⟩
            have HB5 := Lib.hid (HBw.out.trans (hB5.mono HBw.out.size))
            clear hB5
            go_wp2_with fail
            go_ret
            exact ⟨rfl, HB5.out⟩

set_option maxRecDepth 100000 in
theorem lifted (os : Os) (started : os.Started) (H : Type) (enc : TypeId × Value → H) :
    ReturnsInHanded {} Tryd.checked os 4 .any (fun w args => (Rows.mendWithinSpec.pre enc Tryd.prog Tryd.f4 [] false w args ∧ laidMetH Tryd.prog Mnd.laidL w) ∧ sizedMet enc Tryd.prog Tryd.f4 (OpenSpec.ofChange Rows.mendWithinSpec) false w args) (Rows.mendWithinSpec.post enc Tryd.prog Tryd.f4 false true false false) := by
  refine returnsInHanded_of_change_and (C := Tryd.checked) (X := fun w _ => laidMetH Tryd.prog Mnd.laidL w) (fun _ _ _ hh h => h.of_heap hh) own started (by kernel_rfl) Tryd.func4
    (ChangeSpec.witness_shaped (enc := enc) (C := Tryd.checked) (os := os) (X := fun w _ => laidMetH Tryd.prog Mnd.laidL w) false (World.doorLaid Tryd.prog 14 os) #[.slice none 0 0, .int .u8 0, .agg #[.int .u16 0, .int .u16 0, .slice none 0 0, .slice none 0 0]] 8 rfl (World.shaped_of_RefB (by kernel_rfl) (by kernel_rfl)) (by kernel_rfl) (by kernel_rfl) (by kernel_rfl) (Mnd.door_met os _)) ?_
  intro W base args ds gs before hval0 hW _ _ hL _
  have hval : ∀ (j : Nat) t v, Tryd.f4.params[j]? = some t → args[j]? = some v → Value.okWide Tryd.prog W .any base t v := hval0
  have hW' := hW
  obtain ⟨p, q, hA0, hV, rfl, hfz, hnd⟩ := hW
  have hA : DataW.TrodAll enc Tryd.prog W 0 (fun _ => true) true Tryd.f4.params.toList args.toList ds p := hA0
  rw [Tryd.params4] at hA hval
  obtain ⟨v0, vs0, d0, ds0, p0, q0, hargs, rfl, rfl, h0, r0⟩ := trodAll_cons hA
  obtain ⟨v1, vs1, d1, ds1, p1, q1, rfl, rfl, rfl, h1, r1⟩ := trodAll_cons r0
  obtain ⟨v2, vs2, d2, ds2, p2, q2, rfl, rfl, rfl, h2, r2⟩ := trodAll_cons r1
  obtain ⟨rfl, rfl, rfl⟩ := trodAll_nil r2
  obtain rfl : args = #[v0, v1, v2] := by cases args; simp_all
  obtain ⟨rfl, rfl⟩ := trodVars_none hV
  obtain ⟨a0, len0, cap0, rfl⟩ := okWide_slice Tryd.underlying22 (hval 0 22 v0 rfl rfl)
  have k0 := h0
  have lt0 : ∀ x ∈ p0, x.block < W.heap.size := by obtain ⟨m, hm⟩ := k0; exact DataW.trod_lt m _ _ _ hm
  obtain ⟨z0, w0⟩ : ∃ zs, IsRow .i32 W a0 len0 cap0 zs := by
    obtain ⟨fuel, hf⟩ := h0
    rcases open_ints Tryd.underlying22 Tryd.underlying21 (by kernel_rfl) hf with ⟨hcs, _⟩ | ⟨x, l, c, zs, hcs, _, hl, hm, hz, _, hcell, hwz⟩
    · simp [Value.cells] at hcs
      obtain ⟨rfl, rfl, rfl⟩ := hcs
      exact ⟨[], .inl ⟨rfl, rfl, rfl, rfl⟩⟩
    · simp [Value.cells] at hcs
      obtain ⟨rfl, rfl, rfl⟩ := hcs
      exact ⟨zs, .inr ⟨_, rfl, hl, hm, by simpa using hz, hcell, hwz⟩⟩
  obtain ⟨a1, rfl, rfl, rfl, w1⟩ := open_int Tryd.underlying5 (hval 1 5 v1 rfl rfl) h1
  have k2 := h2
  have lt2 : ∀ x ∈ p2, x.block < W.heap.size := by obtain ⟨m, hm⟩ := k2; exact DataW.trod_lt m _ _ _ hm
  obtain ⟨a2, rfl, w2⟩ := Mnd.open_wr (hval 2 26 v2 rfl rfl) h2
  clear hA0 hval0
  have hT := Mnd.tabs_of_laid hL
  refine (walk a0 len0 cap0 z0 a1 a2 W w0 w1 w2 hT).mono fun e W' ⟨he, bel⟩ => ?_
  subst he
  exact ⟨_, rfl, _, _, _, [], _, [], hW', trodAll_mk1 (shut_bool Tryd.underlying4 _), (trodAll_cons_mk (Below.trod laidOut (by kernel_rfl) (of_decide_eq_true (by kernel_rfl)) k0 bel lt0) (trodAll_cons_mk (shut_int Tryd.underlying5 w1) (trodAll_cons_mk (Below.trod laidOut (by kernel_rfl) (of_decide_eq_true (by kernel_rfl)) k2 bel lt2) trodAll_mk0))), rfl, bel.frame _, fun h => by cases h⟩

theorem over : Rows.mendWithinRow.holds Tryd.pinned (OpenSpec.ofChange Rows.mendWithinSpec) :=
  OpenClaim.holds_of_wide 4 Tryd.f4 rfl rfl rfl rfl rfl rfl rfl ⟨rfl, rfl, rfl, rfl, rfl⟩ rfl rfl rfl rfl rfl (by kernel_rfl) Tryd.func4 (by kernel_rfl)
    (of_decide_eq_true (by kernel_rfl)) (by unfold Func.isWrapper; first | (rw [if_pos (by decide +kernel)]; kernel_rfl) | (rw [if_neg (by decide +kernel)]; exact ⟨rfl, rfl⟩))
    (fun os started H enc _ => lifted os started H enc)

theorem func_is {f : FuncId} (h : Tryd.prog.funcNamed Rows.mendWithinRow.func = some f) : f = 4 :=
  Option.some.inj (h.symm.trans (show Tryd.prog.funcNamed Rows.mendWithinRow.func = some 4 by kernel_rfl))
theorem proved : Rows.MendWithinCardSaid :=
  Claim7.holds_tied_plain_at .later [] Rows.mendWithinCard.laidKinds true Rows.mendWithinCard.stood.harness false
    over (fun _ h => by cases h) (by kernel_rfl) (fun _ h => by cases h) mendWithin_row_tie rfl ⟨rfl, rfl⟩ (by kernel_rfl) rfl
    (fun f fn hf hfn => by
      obtain rfl := func_is hf
      obtain rfl : fn = Tryd.f4 := (Option.some.inj (Tryd.func4.symm.trans hfn)).symm
      exact ⟨by kernel_rfl, fun j t ht => by
        rw [Tryd.params4] at ht
        have hm : t ∈ [22, 5, 26] := by simpa using Array.mem_of_getElem? ht
        have hall : ([22, 5, 26].all fun u => !Tryd.prog.wantsStandIn u) = true := by kernel_rfl
        exact (show Tryd.prog.wantsStandIn t = false by simpa using List.all_eq_true.1 hall t hm)⟩)
    (by kernel_rfl)
#print axioms proved
end Go.Proofs.YtkcjllkhmncfdaaDoor.lawMendWithin
