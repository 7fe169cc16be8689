/- AgendaWaits, walked (layer 8). -/
import Derived.Test.YtihaghdjegempaaAgdJ
import Derived.Test.YtihaghdjegempaaAgdO
import Derived.Deep.RegionWith
namespace Go.Proofs.Ytihaghdjegempaa.AgdL
open Go.ChangeShapes Go.WideShapes Go.ChangeAt Go.RowKit
open Go.Proofs.Ytihaghdjegempaa.Rw Go.Proofs.Ytihaghdjegempaa.Agd
set_option linter.unusedVariables false
set_option linter.unusedSimpArgs false
set_option maxRecDepth 100000 in
set_option maxHeartbeats 4000000 in
theorem agendaWaits_any (a : Option Addr) (len cap : Nat) (Z : List Int) (now : Int) (w : World) (hZ : In w a len cap Z) :
    Calls Try.prog 5 #[.slice a len cap, .int .i64 now] w fun e w' => e = .returned (.bool true) ∧ Below w.heap.size w w' := by
  have C0 := Lib.hid (St.new 100 w)
  rw [show min (max (100 : Int) 0) 65536 = 100 by decide] at C0
  obtain ⟨n, hn⟩ : ∃ n : Nat, n = min len 60 := ⟨_, rfl⟩
  have hn1 : n ≤ 60 := by omega
  have hn2 : n ≤ len := by omega
  have hni : min (len : Int) 60 = (n : Int) := by omega
  have hcap := hZ.max
  have hle := hZ.le
  have HZ := Lib.hid hZ
  have A1 : Hid (∀ g k W, k ≤ 60 → St w.heap.size g 100 k (TL Z (fun j => Z.getD j 0) k) W → Calls Try.prog 10 #[.pointer (some ⟨g, 0, none⟩), .int .i64 (Z.getD k 0), .int .i64 (Z.getD k 0)] W fun e w' => e = .returned (.int .i64 0) ∧ St w.heap.size g 100 (k + 1) (TL Z (fun j => Z.getD j 0) (k + 1)) w' ∧ Below w.heap.size W w') := Lib.hid (fun g k W hk h => by
    have := St.add h (Z.getD k 0) (Z.getD k 0) (by omega) (by rw [TL_len]; omega) (by omega) (by rw [TL_len]; omega)
    rw [← TL_succ Z (fun j => Z.getD j 0)] at this
    exact this)
  clear hZ
  go_enter Try.func5, Try.ntmps5
  go_wp2_with fail
  refine (C0.out).mono ?_; rintro e w1 ⟨g, rfl, h1, hB1⟩
  have HS1 := Lib.hid h1
  have HB1 := Lib.hid hB1
  clear h1 hB1
  go_wp2_with fail
  try rw [← hn]
  clear hn hni
  go_loopw [7, 8] (fun s i wr => ∃ k : Nat, k ≤ n ∧ i = .int .i64 k ∧ s = .int .i64 (cnt Z now k) ∧ Hid (St w.heap.size g 100 k (TL Z (fun j => Z.getD j 0) k) wr ∧ Below w.heap.size w wr)) (fun _ i _ => n - (intOf i).toNat)
  case atStart => exact ⟨0, Nat.zero_le _, rfl, rfl, Lib.hid ⟨HS1.out, HB1.out⟩⟩
  case round =>
    obtain ⟨k, hk, rfl, rfl, hI⟩ := hrel
    have hck := cnt_le Z now k
    by_cases hlt : k < n
    · obtain ⟨b, off, rfl, c0⟩ := (HZ.out.below hI.out.2).at_ (k := k) (by omega)
      have HBd : Hid (Below w.heap.size w wr.drew) := Lib.hid (hI.out.2.drew)
      have CA := Lib.hid (A1.out g k wr.drew (by omega) (hI.out.1.below (Below.refl _ _).drew))
      have HC : Hid (∀ W, Below w.heap.size w W → W.cell? ⟨b, off + k, none⟩ = some (.int .i64 (Z.getD k 0))) := Lib.hid (fun W hW => by
        obtain ⟨b', off', e, hc⟩ := (HZ.out.below hW).at_ (k := k) (by omega)
        simp only [Option.some.injEq, Addr.mk.injEq, and_true] at e
        obtain ⟨rfl, rfl⟩ := e
        exact hc)
      have HCN := Lib.hid (cnt_succ Z now k)
      generalize Z.getD k 0 = z at *
      generalize cnt Z now k = c at *
      clear hI
      by_cases hz : z ≤ now
      · have e1 : decide (z ≤ now) = true := by simp; omega
        go_wp2_with fail
        refine wp_region_noPanic ?_
        go_region_with (go_at_call 10; refine (CA.out).mono ?_; rintro e w2 ⟨rfl, h2, hB2⟩; have H2 := Lib.hid (show St w.heap.size g 100 (k + 1) (TL Z (fun j => Z.getD j 0) (k + 1)) w2 ∧ Below w.heap.size w w2 from ⟨h2, HBd.out.trans hB2⟩); clear h2 hB2)
        all_goals
          refine NoPanic.normal ?_
          have c1 := HC.out _ H2.out.2
          go_wp2_with fail
          go_roundw
          case rel => exact ⟨k + 1, by omega, by go_num, by rw [HCN.out, if_pos hz]; go_num, H2⟩
          case measure => simp [intOf]; omega
      · have e1 : decide (z ≤ now) = false := by simp; omega
        go_wp2_with fail
        refine wp_region_noPanic ?_
        go_region_with (go_at_call 10; refine (CA.out).mono ?_; rintro e w2 ⟨rfl, h2, hB2⟩; have H2 := Lib.hid (show St w.heap.size g 100 (k + 1) (TL Z (fun j => Z.getD j 0) (k + 1)) w2 ∧ Below w.heap.size w w2 from ⟨h2, HBd.out.trans hB2⟩); clear h2 hB2)
        all_goals
          refine NoPanic.normal ?_
          have c1 := HC.out _ H2.out.2
          go_wp2_with fail
          go_roundw
          case rel => exact ⟨k + 1, by omega, by go_num, by rw [HCN.out, if_neg (by omega)]; rfl, H2⟩
          case measure => simp [intOf]; omega
    · obtain rfl : k = n := by omega
      have CD := Lib.hid (St.drain hI.out.1 now (by rw [TL_len]; omega))
      have HBr : Hid (Below w.heap.size w wr) := Lib.hid hI.out.2
      obtain ⟨f1, f2, f3, f4, f5⟩ := waits_facts (Z := Z) (n := k) (now := now)
      have HLm : Hid ((List.map Th.x (DR now (TL Z (fun j => Z.getD j 0) k)).1).length = cnt Z now k) := Lib.hid (by rw [List.length_map, f1])
      rw [f1] at CD
      generalize cnt Z now k = c at *
      generalize List.map Th.x (DR now (TL Z (fun j => Z.getD j 0) k)).1 = xs at *
      generalize (DR now (TL Z (fun j => Z.getD j 0) k)).2 = r at *
      generalize hq : r.length = q at *
      have HF3 := Lib.hid f3
      clear f1 f3 hI hlt A1 C0 HS1 HB1
      go_wp2_with fail
      refine (CD.out).mono ?_; rintro e w2 ⟨ad, dcap, rfl, ho, h2, hB2⟩
      have HO := Lib.hid ho
      have CN := Lib.hid (St.next h2 (by omega))
      have CL := Lib.hid (St.len h2)
      rw [hq] at CL
      rw [f4] at CN
      have HB2 : Hid (Below w.heap.size w w2) := Lib.hid (HBr.out.trans hB2)
      obtain ⟨p1, p2, -⟩ := ho.pos
      rw [HLm.out] at p1
      unfold maxLen at p2
      clear ho h2 hB2
      go_wp2_with fail
      go_loopw [46] (fun i wr => ∃ m : Nat, m ≤ c ∧ i = .int .i64 m ∧ wr = w2) (fun i _ => c - (intOf i).toNat)
      case atStart => exact ⟨0, Nat.zero_le _, rfl, rfl⟩
      case round =>
        obtain ⟨m, hm, rfl, rfl⟩ := hrel
        by_cases hlt : m < c
        · obtain ⟨db, rfl, c1, -⟩ := own_cells HO.out (i := m) (by rw [HLm.out]; exact hlt)
          have hx := HF3.out m hlt
          generalize xs.getD m 0 = x at *
          have e1 : decide (x > now) = false := by simp; omega
          have e2 : decide (now < x) = false := by simp; omega
          go_wp2_with fail
          go_roundw
          case rel => exact ⟨m + 1, by omega, by go_num, by first | rfl | trivial⟩
          case measure => simp [intOf]; omega
        · obtain rfl : m = c := by omega
          have CW := Lib.hid (fun W => AgdN.works8_any W)
          obtain rfl : k = q + m := by omega
          generalize nd r = d at *
          clear HO HF3
          by_cases hq0 : q = 0
          · subst hq0
            have e1 : decide (m < 0 + m) = false := by simp
            rw [e1] at CN
            go_wp2_with fail
            refine (CN.out).mono ?_; rintro e w6 ⟨rfl, rfl⟩
            go_wp2_with fail
            refine (CL.out).mono ?_; rintro e w6 ⟨rfl, rfl⟩
            go_wp2_with fail
            refine (CW.out _).mono ?_; rintro e w7 ⟨rfl, hB7⟩
            have HB7 := Lib.hid (HB2.out.trans (hB7.mono HB2.out.size))
            clear hB7
            go_wp2_with fail
            go_ret
            exact ⟨rfl, HB7.out⟩
          · have e1 : decide (m < q + m) = true := by simp; omega
            have hd : now < d := f5 (by omega)
            rw [e1] at CN
            have e2 : decide (d > now) = true := by simp; omega
            have e3 : decide (now < d) = true := by simp; omega
            go_wp2_with fail
            refine (CN.out).mono ?_; rintro e w6 ⟨rfl, rfl⟩
            go_wp2_with fail
            refine (CL.out).mono ?_; rintro e w6 ⟨rfl, rfl⟩
            go_wp2_with fail
            refine (CW.out _).mono ?_; rintro e w7 ⟨rfl, hB7⟩
            have HB7 := Lib.hid (HB2.out.trans (hB7.mono HB2.out.size))
            clear hB7
            go_wp2_with fail
            go_ret
            exact ⟨rfl, HB7.out⟩
end Go.Proofs.Ytihaghdjegempaa.AgdL
