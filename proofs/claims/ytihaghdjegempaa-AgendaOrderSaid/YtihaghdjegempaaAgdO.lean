/- AgendaOrder, walked (layer 8). -/
import Derived.Test.YtihaghdjegempaaAgdI
import Derived.Test.YtihaghdjegempaaAgdT
import Derived.OwnWalk
namespace Go.Proofs.Ytihaghdjegempaa.AgdN
open Go.ChangeShapes Go.WideShapes Go.ChangeAt Go.RowKit
open Go.Proofs.Ytihaghdjegempaa.Rw Go.Proofs.Ytihaghdjegempaa.Agd
set_option linter.unusedVariables false
set_option linter.unusedSimpArgs false
theorem in_of_row {w : World} {a : Option Addr} {len cap : Nat} {zs : List Int}
    (h : (a = none ∧ len = 0 ∧ cap = 0 ∧ zs = []) ∨ ∃ x, a = some x ∧ len ≤ cap ∧ cap ≤ maxLen ∧ zs.length = cap ∧ (∀ i, i < zs.length → w.cell? (x.add i) = some (.int .i64 (zs.getD i 0))) ∧ ∀ n ∈ zs, (Lit.int .i64 n).wf = true) : ∃ Z, In w a len cap Z := by
  rcases h with ⟨rfl, rfl, rfl, rfl⟩ | ⟨x, rfl, hl, hm, hz, hcell, hw⟩
  · exact ⟨[], rfl, Nat.le_refl _, by omega, .inl rfl, fun z hz => by cases hz⟩
  · unfold maxLen at hm
    by_cases h0 : len = 0
    · exact ⟨[], h0.symm, hl, by omega, .inl rfl, fun z hz => by cases hz⟩
    · obtain ⟨b, off, rfl, hc⟩ := ints_at hcell (by omega)
      have hlen : (zs.take len).length = len := by rw [List.length_take]; omega
      refine ⟨zs.take len, hlen, hl, by omega, .inr ⟨b, off, rfl, ?_, fun i hi j u hu => ?_⟩, fun z hz => ?_⟩
      · have h1 := hc 0 (by omega)
        rw [World.cell?] at h1
        by_cases hb : b < w.heap.size
        · exact hb
        · rw [Array.getElem?_eq_none (by simpa using hb)] at h1; simp at h1
      · rw [hlen] at hi
        have hj : j = 0 := by
          have := (List.getElem?_eq_some_iff.1 hu).1
          simp [encI] at this; exact this
        subst hj
        have h1 := hc i (by omega)
        have e : (zs.take len).getD i default = zs.getD i 0 := by simp [List.getD, List.getElem?_take, hi]
        rw [e] at hu
        simp only [encI, List.getElem?_cons_zero, Option.some.injEq] at hu
        rw [Nat.mul_one, Nat.add_zero, ← hu]
        exact h1
      · have := hw z (List.mem_of_mem_take hz)
        exact bounds_i64 this
theorem St.below {B g : Nat} {most : Int} {add : Nat} {l : List Th} {w w' : World} (h : St B g most add l w) (hB : Below w.heap.size w w') : St B g most add l w' := by
  obtain ⟨h1, F, h2, h3⟩ := h
  have := hB.size
  exact ⟨by omega, F, h2.below hB, fun k hk => by have := h3 k hk; omega⟩
theorem infoB : (Try.prog.info? 4).map (fun i => (i.zero, i.size, i.bytes)) = some (some (.bool false), 1, 1) := by kernel_rfl
/-- Which ones have been seen. -/
def Seen (n : Nat) (t : List Th) (w : World) (g : Nat) (m : Nat) : Prop := ∃ cs, Blk w g 4 cs ∧ cs.size = n ∧ ∀ j, j < n → cs[j]? = some (.bool (decide (∃ i, i < m ∧ (gt t i).no = j)))
theorem seen_made {n g base : Nat} {t : List Th} {w : World} (h : w.ownsRow base 4 1 (.slice (some ⟨g, 0, none⟩) n n) n (madeCells (Value.bool false).cells (n * 1)).toList) : Seen n t w g 0 := by
  obtain ⟨cur, h1, -, -, h2, h3, -⟩ := row_of h
  refine ⟨cur, h1, by omega, fun j hj => ?_⟩
  have e : cur.toList.take (n * 1) = cur.toList := List.take_of_length_le (by simp; omega)
  rw [e] at h3
  rw [← Array.getElem?_toList, h3]
  simp [madeCells, hj, Value.cells, Nat.mod_one]
theorem Seen.cell {n g m : Nat} {t : List Th} {w : World} (h : Seen n t w g m) {j : Nat} (hj : j < n) (hn : ∀ i, i < m → (gt t i).no ≠ j) : w.cell? ⟨g, j, none⟩ = some (.bool false) := by
  obtain ⟨cs, h1, h2, h3⟩ := h
  rw [h1.cell, h3 j hj, decide_eq_false (fun ⟨i, hi, e⟩ => hn i hi e)]
theorem Seen.free {n g m : Nat} {t : List Th} {w : World} (h : Seen n t w g m) (j : Nat) : w.frozen? ⟨g, j, none⟩ = false := by
  obtain ⟨cs, h1, -⟩ := h
  exact h1.free j
theorem Seen.step {n g m : Nat} {t : List Th} {w : World} (h : Seen n t w g m) (hj : (gt t m).no < n) : Seen n t (w.setCell ⟨g, (gt t m).no, none⟩ (.bool true)) g (m + 1) := by
  obtain ⟨cs, h1, h2, h3⟩ := h
  refine ⟨_, h1.put _ _, by simp [h2], fun j hj' => ?_⟩
  rw [Array.getElem?_setIfInBounds]
  by_cases e : (gt t m).no = j
  · rw [if_pos e, if_pos (by omega), decide_eq_true ⟨m, Nat.lt_succ_self m, e⟩]
  · rw [if_neg e, h3 j hj']
    congr 2
    rw [decide_eq_decide]
    exact ⟨fun ⟨i, hi, e2⟩ => ⟨i, by omega, e2⟩, fun ⟨i, hi, e2⟩ => ⟨i, by
      by_cases e3 : i = m
      · subst e3; exact absurd e2 e
      · omega, e2⟩⟩
theorem Seen.drewN {n g m : Nat} {t : List Th} {w : World} (h : Seen n t w g m) (q : Nat) : Seen n t (w.drewN q) g m := h
set_option maxRecDepth 100000 in
set_option maxHeartbeats 4000000 in
theorem agendaOrder_any (a : Option Addr) (len cap : Nat) (Z : List Int) (w : World) (hZ : In w a len cap Z) :
    Calls Try.prog 4 #[.slice a len cap] w fun e w' => e = .returned (.bool true) ∧ Below w.heap.size w w' := by
  obtain ⟨i0, hi0, hz0, hz1, hz2⟩ := info_parts infoB
  have C0 := Lib.hid (St.new 100 w)
  rw [show min (max (100 : Int) 0) 65536 = 100 by decide] at C0
  obtain ⟨n, hn⟩ : ∃ n : Nat, n = min len 60 := ⟨_, rfl⟩
  have hn1 : n ≤ 60 := by omega
  have hn2 : n ≤ len := by omega
  have hni : min (len : Int) 60 = (n : Int) := by omega
  have hcap := hZ.max
  have hle := hZ.le
  have HZ := Lib.hid hZ
  have A1 : Hid (∀ g k W, k ≤ 60 → St w.heap.size g 100 k (TL Z (fun j => (j : Int)) k) W → Calls Try.prog 20 #[.pointer (some ⟨g, 0, none⟩), .int .i64 (Z.getD k 0), .int .i64 k] W fun e w' => e = .returned (.int .i64 0) ∧ St w.heap.size g 100 (k + 1) (TL Z (fun j => (j : Int)) (k + 1)) w' ∧ Below w.heap.size W w') := Lib.hid (fun g k W hk h => by
    have := St.add h (Z.getD k 0) k (by omega) (by rw [TL_len]; omega) (by omega) (by rw [TL_len]; omega)
    rw [← TL_succ Z (fun j => (j : Int))] at this
    exact this)
  clear hZ
  go_enter Try.func4, Try.ntmps4
  go_wp2_with fail
  refine (C0.out).mono ?_; rintro e w1 ⟨g, rfl, h1, hB1⟩
  have HS1 := Lib.hid h1
  have HB1 := Lib.hid hB1
  clear h1 hB1
  go_wp2_with fail
  rw [← hn]
  clear hn hni
  go_loopw [5] (fun i wr => ∃ k : Nat, k ≤ n ∧ i = .int .i64 k ∧ Hid (St w.heap.size g 100 k (TL Z (fun j => (j : Int)) k) wr ∧ Below w.heap.size w wr)) (fun i _ => n - (intOf i).toNat)
  case atStart => exact ⟨0, Nat.zero_le _, rfl, Lib.hid ⟨HS1.out, HB1.out⟩⟩
  case round =>
    obtain ⟨k, hk, rfl, hI⟩ := hrel
    by_cases hlt : k < n
    · obtain ⟨b, off, rfl, c0⟩ := (HZ.out.below hI.out.2).at_ (k := k) (by omega)
      have CA := Lib.hid (A1.out g k wr (by omega) hI.out.1)
      have HBr : Hid (Below w.heap.size w wr) := Lib.hid hI.out.2
      generalize Z.getD k 0 = z at *
      clear hI
      go_wp2_with fail
      refine (CA.out).mono ?_; rintro e w2 ⟨rfl, h2, hB2⟩
      have H2 := Lib.hid (show St w.heap.size g 100 (k + 1) (TL Z (fun j => (j : Int)) (k + 1)) w2 ∧ Below w.heap.size w w2 from ⟨h2, HBr.out.trans hB2⟩)
      clear h2 hB2
      go_wp2_with fail
      go_roundw
      case rel => exact ⟨k + 1, by omega, by go_num, H2⟩
      case measure => simp [intOf]; omega
    · obtain rfl : k = n := by omega
      have CD := Lib.hid (St.drain hI.out.1 9223372036854775807 (by rw [TL_len]; omega))
      have HBr : Hid (Below w.heap.size w wr) := Lib.hid hI.out.2
      obtain ⟨f1, f2, f3⟩ := order_facts (Z := Z) (n := k) (now := 9223372036854775807) (fun j _ => (HZ.out.bound j).2)
      rw [f1, f2] at CD
      have HF := Lib.hid f3
      generalize (DR 9223372036854775807 (TL Z (fun j => (j : Int)) k)).1 = t at *
      clear f1 f3 hI hlt hk A1 C0 HS1 HB1
      go_wp2_with fail
      refine (CD.out).mono ?_; rintro e w2 ⟨ad, dcap, rfl, ho, h2, hB2⟩
      have hsz2 := HBr.out.size
      have HO := Lib.hid ho
      have HS2 := Lib.hid h2
      have HB2 : Hid (Below w.heap.size w w2) := Lib.hid (HBr.out.trans hB2)
      obtain ⟨p1, p2, -⟩ := ho.pos
      rw [List.length_map, f2] at p1
      unfold maxLen at p2
      clear ho h2 hB2
      go_wp2_with (at_make; refine wpList_make_full _ rfl _ _ 53 rfl w2.heap.size 4 i0 (.bool false) 1 Try.underlying53 hi0 hz0 hz1 .i64 .i64 _ _ k (by rfl) (by rfl) rfl rfl (by rw [hz2]; omega) (by unfold maxLen; omega) (Nat.le_refl _) ?_; intro w3 hown3 hgrow3)
      have HM0 : Hid (Seen k t w3 w2.heap.size 0 ∧ Below w2.heap.size w2 w3) := Lib.hid ⟨seen_made hown3, hgrow3.os, hgrow3.tape, hgrow3.output, hgrow3.size, fun j hj => hgrow3.block j hj (by simp)⟩
      clear hown3 hgrow3
      go_loopw [36] (fun i wr => ∃ m : Nat, m ≤ k ∧ i = .int .i64 m ∧ Hid (Seen k t wr w2.heap.size m ∧ Below w2.heap.size w2 wr)) (fun i _ => k - (intOf i).toNat)
      case atStart => exact ⟨0, Nat.zero_le _, rfl, HM0⟩
      case round =>
        obtain ⟨m, hm, rfl, hI⟩ := hrel
        by_cases hlt : m < k
        · obtain ⟨g1, g2, g3, g4, g5⟩ := HF.out m hlt
          obtain ⟨b, off, rfl, -⟩ := (HZ.out.below HB2.out).at_ (k := (gt t m).no) (by omega)
          obtain ⟨db, rfl, -⟩ := own_cells HO.out (i := m) (by rw [List.length_map, f2]; exact hlt)
          have HW : Hid (∀ W, Below w2.heap.size w2 W → (∀ j, j < k → W.cell? ⟨b, off + j, none⟩ = some (.int .i64 (Z.getD j 0))) ∧ (∀ j, j < k → W.cell? ⟨db, j, none⟩ = some (.int .i64 (gt t j).x))) := Lib.hid (fun W hW => by
            refine ⟨fun j hj => ?_, fun j hj => ?_⟩
            · obtain ⟨b', off', e, hc⟩ := ((HZ.out.below HB2.out).below hW).at_ (k := j) (by omega)
              simp only [Option.some.injEq, Addr.mk.injEq, and_true] at e
              obtain ⟨rfl, rfl⟩ := e
              exact hc
            · obtain ⟨b', e, hc, -⟩ := own_cells (HO.out.below hW) (i := j) (by rw [List.length_map, f2]; exact hj)
              simp only [Option.some.injEq, Addr.mk.injEq, and_true] at e
              subst e
              rw [hc]
              congr 2
              simp [gt, List.getD, show j < t.length by omega])
          obtain ⟨q1, q2⟩ := HW.out wr hI.out.2
          have c1 := q2 m hlt
          rw [g1] at c1
          have c3 := hI.out.1.cell g2 g4
          have c4 : ∀ j, wr.frozen? ⟨w2.heap.size, j, none⟩ = false := hI.out.1.free
          have HN : Hid (Seen k t (wr.setCell ⟨w2.heap.size, (gt t m).no, none⟩ (.bool true)) w2.heap.size (m + 1) ∧ Below w2.heap.size w2 (wr.setCell ⟨w2.heap.size, (gt t m).no, none⟩ (.bool true))) := Lib.hid ⟨hI.out.1.step g2, hI.out.2.setCell (p := ⟨w2.heap.size, (gt t m).no, none⟩) (Nat.le_refl _) _⟩
          have HWn := Lib.hid (HW.out _ HN.out.2)
          generalize hw4 : wr.setCell ⟨w2.heap.size, (gt t m).no, none⟩ (.bool true) = w4 at *
          have H4 := Lib.hid hw4
          have HG3 := Lib.hid g3
          have HG5 := Lib.hid g5
          clear hw4 q1 q2 hI g3 g5 g1 g4
          generalize hno : (gt t m).no = no at *
          have HNO := Lib.hid hno
          clear hno
          go_upto_region 17 with fail
          rw [H4.out]
          obtain ⟨q1, q2⟩ := HWn.out
          have HND : Hid (∀ q, Seen k t (w4.drewN q) w2.heap.size (m + 1) ∧ Below w2.heap.size w2 (w4.drewN q)) := Lib.hid (fun q => ⟨HN.out.1.drewN q, Own.below_drewN HN.out.2 q⟩)
          have d1 := q1 no g2
          rw [← HG3.out] at d1
          have d2 := q2 m hlt
          cases m with
          | zero =>
            clear c1 c3 c4 HF HM0 HWn HN HW
            clear q1 q2
            go_quiet (fail)
            go_wp2_with fail
            go_roundw
            case rel => exact ⟨1, by omega, rfl, Lib.hid (HND.out _)⟩
            case measure => simp [intOf]; omega
          | succ p =>
            obtain ⟨r1, r2, r3, -, -⟩ := HF.out p (by omega)
            have d3 := q2 p (by omega)
            rw [r1] at d3
            have d4 := q1 _ r2
            rw [← r3] at d4
            have hb := (bef_not.1 (HG5.out (Nat.succ_pos p)))
            rw [Nat.add_sub_cancel, HNO.out] at hb
            clear c1 c3 c4 HF HM0 HWn HN HW q1 q2 r1 r3 HG5
            generalize (gt t (p + 1)).due = dc at *
            generalize (gt t p).due = dp at *
            generalize (gt t p).no = np at *
            have HX := Lib.hid hb
            clear hb
            by_cases hlt2 : dp < dc
            · have e1 : decide (dp > dc) = false := by simp; omega
              have e2 : decide (dp = dc) = false := by simp; omega
              have e4 : decide (dc < dp) = false := by simp; omega
              have e5 : (dp == dc) = false := by simp; omega
              go_quiet (fail)
              go_wp2_with fail
              go_roundw
              case rel => exact ⟨p + 2, by omega, by go_num, Lib.hid (HND.out _)⟩
              case measure => simp [intOf]; omega
            · obtain rfl : dp = dc := by have := HX.out; omega
              have e1 : decide (dp > dp) = false := by simp
              have e3 : decide ((np : Int) > (no : Int)) = false := by have := HX.out; simp; omega
              have e4 : decide ((no : Int) < (np : Int)) = false := by have := HX.out; simp; omega
              have e5 : decide (no < np) = false := by have := HX.out; simp; omega
              go_quiet (fail)
              go_wp2_with fail
              go_roundw
              case rel => exact ⟨p + 2, by omega, by go_num, Lib.hid (HND.out _)⟩
              case measure => simp [intOf]; omega
        · obtain rfl : m = k := by omega
          have HSr := Lib.hid (St.len (HS2.out.below hI.out.2))
          have HBw : Hid (Below w.heap.size w wr) := Lib.hid (HB2.out.trans (hI.out.2.mono HB2.out.size))
          have CW := Lib.hid (fun W => works8_any W)
          clear hI
          go_wp2_with fail
          refine (HSr.out).mono ?_; rintro e w6 ⟨rfl, rfl⟩
          go_wp2_with fail
          refine (CW.out _).mono ?_; rintro e w7 ⟨rfl, hB7⟩
          have HB7 := Lib.hid (HBw.out.trans (hB7.mono HBw.out.size))
          clear hB7
          go_wp2_with fail
          go_ret
          exact ⟨rfl, HB7.out⟩
end Go.Proofs.Ytihaghdjegempaa.AgdN
