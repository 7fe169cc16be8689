/- The document's own answers for layer buf: GetFixed, GetNum, GetBytes: bytes as numbers. -/
import Derived.Test.YtepcbklokcfbfaaBufD
namespace Go.Proofs.Ytepcbklokcfbfaa.Buf
open Go.ChangeShapes Go.WideShapes Go.ChangeAt Go.RowKit
open Go.Proofs.Ytepcbklokcfbfaa.Byt Go.Proofs.Ytepcbklokcfbfaa.Units Go.Proofs.Ytepcbklokcfbfaa.BufM
set_option linter.unusedVariables false

/-- Bytes that came in, or of the call's own: where they lie. -/
structure RdS (w : World) (G : Nat) (ad : Option Addr) (len cap : Nat) (l : List UInt8) : Prop where
  len_ : l.length = len
  rd : RdB w ad l
  lies : Lies ad cap G
  le : len ≤ cap
  max : cap ≤ 9223372036854775807
theorem RdS.cut {w : World} {G : Nat} {ad : Option Addr} {len cap : Nat} {l : List UInt8} (h : RdS w G ad len cap l) (k : Nat) : RdS w G (cutAd ad cap k) (len - k) (cap - k) (l.drop k) := by
  have h1 := h.len_; have h2 := h.le; have h3 := h.max
  exact ⟨by rw [List.length_drop, h1], rd_cut h.rd h.lies (by omega), h.lies.cut k, by omega, by omega⟩
theorem RdS.take {w : World} {G : Nat} {ad : Option Addr} {len cap : Nat} {l : List UInt8} (h : RdS w G ad len cap l) {k : Nat} (hk : k ≤ len) : RdS w G ad k cap (l.take k) := by
  have h1 := h.len_; have h2 := h.le
  exact ⟨by rw [List.length_take]; omega, h.rd.take k, h.lies, by omega, h.max⟩
theorem RdS.nil (w : World) (G : Nat) : RdS w G none 0 0 [] := ⟨rfl, .inl rfl, Lies.nil G, Nat.le_refl _, by omega⟩
theorem RdS.drewN {w : World} {G : Nat} {ad : Option Addr} {len cap : Nat} {l : List UInt8} (h : RdS w G ad len cap l) (n : Nat) : RdS (w.drewN n) G ad len cap l := ⟨h.len_, h.rd, h.lies, h.le, h.max⟩
theorem RdS.kept {w w' : World} {G : Nat} {ad : Option Addr} {len cap : Nat} {l : List UInt8} (h : RdS w G ad len cap l) (hk : ∀ b, b < G → w'.heap[b]? = w.heap[b]?) : RdS w' G ad len cap l := ⟨h.len_, h.lies.kept h.rd hk, h.lies, h.le, h.max⟩
/-- What GetFixed and GetNum leave: the number, the rest, the error. -/
def GPost (w : World) (G : Nat) (r : Nat × List UInt8 × Nat) (e : Ending) (w' : World) : Prop :=
  ∃ ad len cap n, e = .returned (.tuple #[.int .u64 ((r.1 : Nat) : Int), .slice ad len cap, .int .i64 ((r.2.2 : Nat) : Int)]) ∧ w.drewN n = w' ∧ RdS w G ad len cap r.2.1
theorem drop_step {l : List UInt8} {k : Nat} (h : k < l.length) : l.drop k = l.getD k 0 :: l.drop (k + 1) := by
  rw [List.drop_eq_getElem_cons h]; simp [h]
theorem fixN_step {l : List UInt8} {k : Nat} (h : k < l.length) : fixN (l.drop k) = (l.getD k 0).toNat + 256 * fixN (l.drop (k + 1)) := by rw [drop_step h, fixN]
theorem sevN_step {l : List UInt8} {k : Nat} (h : k < l.length) : sevN (l.drop k) = (l.getD k 0).toNat % 128 + 128 * sevN (l.drop (k + 1)) := by rw [drop_step h, sevN]
theorem sevN_drop : ∀ (k : Nat) (l : List UInt8), sevN (l.drop k) ≤ sevN l
  | 0, l => by simp
  | k + 1, [] => by simp
  | k + 1, b :: l => by rw [List.drop_succ_cons]; have := sevN_drop k l; simp only [sevN]; omega
theorem cutAd_some (b off cap k : Nat) : cutAd (some ⟨b, off, none⟩) cap k = if cap = k then some ⟨b, off, none⟩ else some ⟨b, off + k, none⟩ := by
  unfold cutAd
  rw [Option.map_some, Addr.add_lit]
theorem GPost.mk' {w : World} {G : Nat} {r : Nat × List UInt8 × Nat} {x e : Nat} (hr : r = (x, [], e)) : GPost w G r (.returned (.tuple #[.int .u64 (x : Int), .slice none 0 0, .int .i64 (e : Int)])) w := by
  subst hr
  exact ⟨_, _, _, 0, rfl, rfl, RdS.nil w G⟩
theorem lead_get {l : List UInt8} {k : Nat} (h : k ≤ lead l) (hk : k < l.length) : (128 ≤ (l.getD k 0).toNat ∧ k + 1 ≤ lead l) ∨ ((l.getD k 0).toNat < 128 ∧ lead l = k) := by
  by_cases hb : 128 ≤ (l.getD k 0).toNat
  · exact .inl ⟨hb, lead_step h hk hb⟩
  · exact .inr ⟨by omega, lead_stop h (by omega)⟩
set_option maxRecDepth 100000 in
set_option maxHeartbeats 1000000 in
theorem gnum_any (ad : Option Addr) (len cap G : Nat) (l : List UInt8) (w : World) (h : RdS w G ad len cap l) :
    Calls Try.prog 36 #[.slice ad len cap] w (GPost w G (getN l)) := by
  have hll := h.len_
  have hcc := h.le
  have hmx := h.max
  have HH := Lib.hid h
  have HL := Lib.hid hll
  have HRB := Lib.hid h.rd
  have HLE := Lib.hid (lead_le l)
  have HG : Hid (∀ k, k ≤ lead l → k < len → (128 ≤ (l.getD k 0).toNat ∧ k + 1 ≤ lead l) ∨ ((l.getD k 0).toNat < 128 ∧ lead l = k)) := Lib.hid (fun k h1 h2 => lead_get h1 (by omega))
  have H5 : Hid (10 ≤ lead l → GPost w G (getN l) (.returned (.tuple #[.int .u64 0, .slice none 0 0, .int .i64 5])) w) := Lib.hid (fun h => GPost.mk' (by unfold getN; rw [if_pos h]))
  have H3 : Hid (lead l < 10 → lead l = len → GPost w G (getN l) (.returned (.tuple #[.int .u64 0, .slice none 0 0, .int .i64 3])) w) := Lib.hid (fun h h' => GPost.mk' (by unfold getN; rw [if_neg (by omega), if_pos (by omega)]))
  have H5' : Hid (∀ k, lead l = k → k < 10 → k < len → ((0 < k ∧ (l.getD k 0).toNat = 0) ∨ (k = 9 ∧ 1 < (l.getD k 0).toNat)) → GPost w G (getN l) (.returned (.tuple #[.int .u64 0, .slice none 0 0, .int .i64 5])) w) := Lib.hid (fun k hk h10 hlt hc => GPost.mk' (by
    unfold getN
    rw [hk, if_neg (by omega), if_neg (by omega), if_pos hc]))
  have H0 : Hid (∀ k, lead l = k → k < 10 → k < len → ¬ ((0 < k ∧ (l.getD k 0).toNat = 0) ∨ (k = 9 ∧ 1 < (l.getD k 0).toNat)) → sevN (l.take (k + 1)) < 18446744073709551616 ∧ ∀ m, GPost w G (getN l) (.returned (.tuple #[.int .u64 ((sevN (l.take (k + 1)) : Nat) : Int), .slice (cutAd ad cap (k + 1)) (len - (k + 1)) (cap - (k + 1)), .int .i64 0])) (w.drewN m)) := Lib.hid (fun k hk h10 hlt hc => by
    have he : getN l = (sevN (l.take (k + 1)), l.drop (k + 1), 0) := by
      unfold getN
      rw [hk, if_neg (by omega), if_neg (by omega), if_neg hc]
    refine ⟨(sev_getN he).2, fun m => ?_⟩
    rw [he]
    exact ⟨_, _, _, m, rfl, rfl, h.cut (k + 1)⟩)
  have HX : Hid (∀ n j, j < n + 1 → n < len → sevN ((l.take (n + 1)).drop j) = (l.getD j 0).toNat % 128 + 128 * sevN ((l.take (n + 1)).drop (j + 1)) ∧ sevN ((l.take (n + 1)).drop j) ≤ sevN (l.take (n + 1))) := Lib.hid (fun n j hj hn => by
    have := sevN_step (l := l.take (n + 1)) (k := j) (by rw [List.length_take]; omega)
    rw [getD_take hj] at this
    exact ⟨this, sevN_drop _ _⟩)
  have HE : Hid (∀ n, n < len → sevN ((l.take (n + 1)).drop (n + 1)) = 0) := Lib.hid (fun n hn => by rw [List.drop_of_length_le (by rw [List.length_take]; omega)]; rfl)
  generalize hpost : GPost w G (getN l) = Post at *
  clear h hll hpost
  go_enter Try.func36, Try.ntmps36
  go_wp2_with fail
  go_loop [5] (fun iv => ∃ k : Nat, k ≤ 10 ∧ iv = .int .i64 (k : Int) ∧ Hid (k ≤ lead l)) (fun i => 10 - (intOf i).toNat)
  case atStart => exact ⟨0, by omega, rfl, Lib.hid (Nat.zero_le _)⟩
  case round =>
    obtain ⟨k, hk, rfl, hkl⟩ := hrel
    by_cases hlen : k < len
    · have hlen' : (k : Int) < (len : Int) := by omega
      obtain ⟨b, off, rfl, hcell⟩ := HRB.out.at (k := k) (by rw [HL.out]; exact hlen)
      have hb := (l.getD k 0).toNat_lt
      by_cases h10 : k < 10
      · rcases HG.out k hkl.out hlen with ⟨hbig, hk1⟩ | ⟨hsm, hlk⟩
        · have HK := Lib.hid hk1
          clear hk1
          generalize (l.getD k 0).toNat = y at *
          clear H5 H3 H5' H0 HX HE HG HRB HH
          go_wp2_with fail
          go_round
          case rel => exact ⟨k + 1, by omega, by go_num, HK⟩
          case measure => simp [intOf]; omega
        · have hk10 : ((k : Int) == 10) = false := by simp; omega
          have hkl2 : ((k : Int) == (len : Int)) = false := by simp; omega
          by_cases hbad : (0 < k ∧ (l.getD k 0).toNat = 0) ∨ (k = 9 ∧ 1 < (l.getD k 0).toNat)
          · have HP := Lib.hid (H5'.out k hlk h10 hlen hbad)
            generalize (l.getD k 0).toNat = y at *
            clear H5 H3 H5' H0 HX HE HG HRB HH hlk
            have hk0 : 0 < k := by omega
            by_cases hy : y = 0
            · subst hy
              clear hbad
              go_wp2_with fail
              exact HP.out
            · obtain ⟨hk9, hy1⟩ : k = 9 ∧ 1 < y := by omega
              subst hk9
              have hy0 : ((y : Int) == 0) = false := by simp; omega
              clear hbad hy
              go_wp2_with fail
              exact HP.out
          · obtain ⟨hx64, HP⟩ := H0.out k hlk h10 hlen hbad
            have HP := Lib.hid HP
            rw [cutAd_some] at HP
            have HX := Lib.hid (fun j hj => HX.out k j hj hlen)
            have HE := Lib.hid (HE.out k hlen)
            have HS := Lib.hid (show ∀ j, j < k + 1 → ∃ y : Nat, y < 256 ∧ l.getD j 0 = UInt8.ofNat y ∧ (l.getD j 0).toNat = y from fun j hj => ⟨(l.getD j 0).toNat, (l.getD j 0).toNat_lt, by simp, rfl⟩)
            have hcase : (k = 0) ∨ (0 < k ∧ (l.getD k 0).toNat ≠ 0 ∧ k ≠ 9) ∨ (k = 9 ∧ (l.getD k 0).toNat ≠ 0 ∧ (l.getD k 0).toNat ≤ 1) := by omega
            clear hbad H5 H3 H5' H0 HG HH hlk
            generalize hY : (l.getD k 0).toNat = y at hsm hcell hb hcase
            clear hY
            have hkz : (0 : Int) ≤ (k : Int) + 1 := by omega
            have hkl3 : (k : Int) + 1 ≤ (len : Int) := by omega
            rcases hcase with hk0 | ⟨hk0, hy0, hk9⟩ | ⟨hk9, hy0, hy1⟩
            · have f1 : decide ((0 : Int) < (k : Int)) = false := by simp; omega
              have f2 : decide (0 < k) = false := by simp; omega
              have f3 : ((k : Int) == 9) = false := by simp; omega
              clear hk0
              go_wp2_with fail
              clear hcell hb hsm hlen'
              go_loop [6, 7] (fun xv iv => ∃ j x : Nat, j ≤ k + 1 ∧ iv = .int .i64 ((j : Int) - 1) ∧ xv = .int .u64 (x : Int) ∧ x < 18446744073709551616 ∧ Hid (x = sevN ((l.take (k + 1)).drop j))) (fun _ i => (intOf i + 1).toNat)
              case atStart => exact ⟨k + 1, 0, Nat.le_refl _, by congr 1; omega, rfl, by omega, Lib.hid HE.out.symm⟩
              case round =>
                obtain ⟨j, x, hj, rfl, rfl, hx, hxe⟩ := hrel
                by_cases hj0 : j = 0
                · subst hj0
                  have hxe := hxe.out
                  rw [List.drop_zero] at hxe
                  rw [← hxe] at HP
                  clear HX HE HRB HL hxe HS hx64
                  by_cases hcn : cap = k + 1
                  · rw [if_pos hcn] at HP
                    subst hcn
                    obtain rfl : len = k + 1 := by omega
                    rw [Nat.sub_self] at HP
                    go_wp2_with fail
                    go_quiet (fail)
                    go_wp2_with fail
                    exact HP.out _
                  · rw [if_neg hcn] at HP
                    go_wp2_with fail
                    go_quiet (fail)
                    go_wp2_with fail
                    exact HP.out _
                · obtain ⟨i, rfl⟩ : ∃ i, j = i + 1 := ⟨j - 1, by omega⟩
                  obtain ⟨b', off', e, hcell⟩ := HRB.out.at (k := i) (by rw [HL.out]; omega)
                  cases e
                  obtain ⟨hx1, hx2⟩ := HX.out i (by omega)
                  have hb := (l.getD i 0).toNat_lt
                  rw [hx1, ← hxe.out] at hx2
                  have HX1 := Lib.hid hx1
                  have hx3 := Nat.lt_of_le_of_lt hx2 hx64
                  clear hx1 hx2 HX HE HRB HP HS hx64
                  generalize (l.getD i 0).toNat = z at *
                  have hj1 : (((i + 1 : Nat) : Int) - 1) = (i : Int) := by omega
                  rw [hj1]
                  have hjl : (i : Int) < (len : Int) := by omega
                  clear hj1
                  go_wp2_with fail
                  go_round
                  case rel => exact ⟨i, z % 128 + 128 * x, by omega, rfl, by congr 1; omega, hx3, Lib.hid (by rw [HX1.out, ← hxe.out])⟩
                  case measure => simp [intOf]
            · have f3 : ((k : Int) == 9) = false := by simp; omega
              have f4 : ((y : Int) == 0) = false := by simp; omega
              clear hk9 hy0
              go_wp2_with fail
              clear hcell hb hsm hlen'
              go_loop [6, 7] (fun xv iv => ∃ j x : Nat, j ≤ k + 1 ∧ iv = .int .i64 ((j : Int) - 1) ∧ xv = .int .u64 (x : Int) ∧ x < 18446744073709551616 ∧ Hid (x = sevN ((l.take (k + 1)).drop j))) (fun _ i => (intOf i + 1).toNat)
              case atStart => exact ⟨k + 1, 0, Nat.le_refl _, by congr 1; omega, rfl, by omega, Lib.hid HE.out.symm⟩
              case round =>
                obtain ⟨j, x, hj, rfl, rfl, hx, hxe⟩ := hrel
                by_cases hj0 : j = 0
                · subst hj0
                  have hxe := hxe.out
                  rw [List.drop_zero] at hxe
                  rw [← hxe] at HP
                  clear HX HE HRB HL hxe HS hx64
                  by_cases hcn : cap = k + 1
                  · rw [if_pos hcn] at HP
                    subst hcn
                    obtain rfl : len = k + 1 := by omega
                    rw [Nat.sub_self] at HP
                    go_wp2_with fail
                    go_quiet (fail)
                    go_wp2_with fail
                    exact HP.out _
                  · rw [if_neg hcn] at HP
                    go_wp2_with fail
                    go_quiet (fail)
                    go_wp2_with fail
                    exact HP.out _
                · obtain ⟨i, rfl⟩ : ∃ i, j = i + 1 := ⟨j - 1, by omega⟩
                  obtain ⟨b', off', e, hcell⟩ := HRB.out.at (k := i) (by rw [HL.out]; omega)
                  cases e
                  obtain ⟨hx1, hx2⟩ := HX.out i (by omega)
                  have hb := (l.getD i 0).toNat_lt
                  rw [hx1, ← hxe.out] at hx2
                  have HX1 := Lib.hid hx1
                  have hx3 := Nat.lt_of_le_of_lt hx2 hx64
                  clear hx1 hx2 HX HE HRB HP HS hx64
                  generalize (l.getD i 0).toNat = z at *
                  have hj1 : (((i + 1 : Nat) : Int) - 1) = (i : Int) := by omega
                  rw [hj1]
                  have hjl : (i : Int) < (len : Int) := by omega
                  clear hj1
                  go_wp2_with fail
                  go_round
                  case rel => exact ⟨i, z % 128 + 128 * x, by omega, rfl, by congr 1; omega, hx3, Lib.hid (by rw [HX1.out, ← hxe.out])⟩
                  case measure => simp [intOf]
            · have hk0 : 0 < k := by omega
              have f3 : ((k : Int) == 9) = true := by simp; omega
              have f4 : ((y : Int) == 0) = false := by simp; omega
              have f5 : (y : Int) ≤ 1 := by omega
              clear hk9 hy0 hy1
              go_wp2_with fail
              clear hcell hb hsm hlen'
              go_loop [6, 7] (fun xv iv => ∃ j x : Nat, j ≤ k + 1 ∧ iv = .int .i64 ((j : Int) - 1) ∧ xv = .int .u64 (x : Int) ∧ x < 18446744073709551616 ∧ Hid (x = sevN ((l.take (k + 1)).drop j))) (fun _ i => (intOf i + 1).toNat)
              case atStart => exact ⟨k + 1, 0, Nat.le_refl _, by congr 1; omega, rfl, by omega, Lib.hid HE.out.symm⟩
              case round =>
                obtain ⟨j, x, hj, rfl, rfl, hx, hxe⟩ := hrel
                by_cases hj0 : j = 0
                · subst hj0
                  have hxe := hxe.out
                  rw [List.drop_zero] at hxe
                  rw [← hxe] at HP
                  clear HX HE HRB HL hxe HS hx64
                  by_cases hcn : cap = k + 1
                  · rw [if_pos hcn] at HP
                    subst hcn
                    obtain rfl : len = k + 1 := by omega
                    rw [Nat.sub_self] at HP
                    go_wp2_with fail
                    go_quiet (fail)
                    go_wp2_with fail
                    exact HP.out _
                  · rw [if_neg hcn] at HP
                    go_wp2_with fail
                    go_quiet (fail)
                    go_wp2_with fail
                    exact HP.out _
                · obtain ⟨i, rfl⟩ : ∃ i, j = i + 1 := ⟨j - 1, by omega⟩
                  obtain ⟨b', off', e, hcell⟩ := HRB.out.at (k := i) (by rw [HL.out]; omega)
                  cases e
                  obtain ⟨hx1, hx2⟩ := HX.out i (by omega)
                  have hb := (l.getD i 0).toNat_lt
                  rw [hx1, ← hxe.out] at hx2
                  have HX1 := Lib.hid hx1
                  have hx3 := Nat.lt_of_le_of_lt hx2 hx64
                  clear hx1 hx2 HX HE HRB HP HS hx64
                  generalize (l.getD i 0).toNat = z at *
                  have hj1 : (((i + 1 : Nat) : Int) - 1) = (i : Int) := by omega
                  rw [hj1]
                  have hjl : (i : Int) < (len : Int) := by omega
                  clear hj1
                  go_wp2_with fail
                  go_round
                  case rel => exact ⟨i, z % 128 + 128 * x, by omega, rfl, by congr 1; omega, hx3, Lib.hid (by rw [HX1.out, ← hxe.out])⟩
                  case measure => simp [intOf]
      · obtain rfl : k = 10 := by omega
        have HP := Lib.hid (H5.out hkl.out)
        clear H5 H3 H5' H0 HX HE HG HRB HH
        go_wp2_with fail
        exact HP.out
    · have hke : k = len := by have := hkl.out; have := HLE.out; have := HL.out; omega
      by_cases h10 : k < 10
      · have HP := Lib.hid (H3.out (by have := hkl.out; have := HLE.out; have := HL.out; omega) (by have := hkl.out; have := HLE.out; have := HL.out; omega))
        have hk10 : ((k : Int) == 10) = false := by simp; omega
        clear H5 H3 H5' H0 HX HE HG HRB HH
        subst hke
        go_wp2_with fail
        exact HP.out
      · obtain rfl : k = 10 := by omega
        have HP := Lib.hid (H5.out hkl.out)
        clear H5 H3 H5' H0 HX HE HG HRB HH
        subst hke
        go_wp2_with fail
        exact HP.out
theorem getN_lt' (l : List UInt8) : (getN l).1 < 18446744073709551616 := by
  rcases h : getN l with ⟨x, r, e⟩
  rcases getN_err h with rfl | ⟨rfl, _⟩
  · exact (sev_getN h).2
  · simp
theorem drewN_add (w : World) (n m : Nat) : w.drewN (n + m) = (w.drewN n).drewN m := by
  simp [World.drewN, Nat.add_assoc]
/-- What GetBytes leaves: the bytes, the rest, the error. -/
def GBPost (w : World) (G : Nat) (r : List UInt8 × List UInt8 × Nat) (e : Ending) (w' : World) : Prop :=
  ∃ ad len cap ad2 len2 cap2 n, e = .returned (.tuple #[.slice ad len cap, .slice ad2 len2 cap2, .int .i64 ((r.2.2 : Nat) : Int)]) ∧ w.drewN n = w' ∧ RdS w G ad len cap r.1 ∧ RdS w G ad2 len2 cap2 r.2.1
theorem GBPost.mk' {w : World} {G : Nat} {r : List UInt8 × List UInt8 × Nat} {e : Nat} (n : Nat) (hr : r = ([], [], e)) : GBPost w G r (.returned (.tuple #[.slice none 0 0, .slice none 0 0, .int .i64 (e : Int)])) (w.drewN n) := by
  subst hr
  exact ⟨_, _, _, _, _, _, n, rfl, rfl, RdS.nil w G, RdS.nil w G⟩
end Go.Proofs.Ytepcbklokcfbfaa.Buf
