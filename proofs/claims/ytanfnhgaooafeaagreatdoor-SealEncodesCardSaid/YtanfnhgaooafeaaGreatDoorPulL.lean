/- Get (layer 11) for all kinds at once; what was put is got. -/
import Derived.Test.YtanfnhgaooafeaaGreatDoorPulG
import Derived.Test.YtanfnhgaooafeaaGreatDoorPulI
import Derived.Test.YtanfnhgaooafeaaGreatDoorPulJ
import Derived.Test.YtanfnhgaooafeaaGreatDoorPulX
namespace Go.Proofs.YtanfnhgaooafeaaGreatDoor.Pul
open Go.ChangeShapes Go.WideShapes Go.ChangeAt Go.RowKit Go.Deep
open Go.Proofs.YtanfnhgaooafeaaGreatDoor.Byt Go.Proofs.YtanfnhgaooafeaaGreatDoor.Key Go.Proofs.YtanfnhgaooafeaaGreatDoor.Buf Go.Proofs.YtanfnhgaooafeaaGreatDoor.Hed Go.Proofs.YtanfnhgaooafeaaGreatDoor.Dat Go.Proofs.YtanfnhgaooafeaaGreatDoor.BufM
set_option linter.unusedVariables false
set_option linter.unusedSimpArgs false
/-- What is wrong where a packet's rest is read. -/
def rgE (p : Pk) (l : List UInt8) : Nat :=
  if p.kind = 1 then (getF l 8).2.2
  else if p.kind = 2 then (if (getF l 8).2.2 = 0 then (getF (getF l 8).2.1 8).2.2 else (getF l 8).2.2)
  else if p.kind = 3 then (if (getN l).2.2 = 0 then (if 1152921504606846976 < (getN l).1 then 2 else 0) else (getN l).2.2) else 7
/-- What is left where it went well. -/
def rgR (p : Pk) (l : List UInt8) : List UInt8 :=
  if p.kind = 1 then (getF l 8).2.1 else if p.kind = 2 then (getF (getF l 8).2.1 8).2.1 else (getN l).2.1
theorem fixS_zero (l : List UInt8) : fixS (0, l) 8 = if (getF l 8).2.2 = 0 then (0, (getF l 8).2.1) else (((getF l 8).2.2 : Int), []) := by
  unfold fixS upd
  simp only [if_true]
theorem numS_zero (l : List UInt8) : numS (0, l) = if (getN l).2.2 = 0 then (0, (getN l).2.1) else (((getN l).2.2 : Int), []) := by
  unfold numS upd
  simp only [if_true]
theorem fixS_bad (e : Int) (h : e ≠ 0) : fixS (e, []) 8 = (e, []) := by
  unfold fixS upd
  rw [show getF [] 8 = (0, [], 3) from by unfold getF; rfl]
  simp only
  rw [if_neg (by omega), if_neg h]
theorem no_sg (x : Nat) (h : x < 18446744073709551616) : noOk (sg x) = decide (x ≤ 1152921504606846976) := by
  rw [Bool.eq_iff_iff, noOk_iff, decide_eq_true_eq]
  unfold sg
  rw [IntKind.wrap_i64]
  omega
theorem fil_ok (p : Pk) (l : List UInt8) (hk : kk p.kind = true) (h : rgE p l = 0) : filS p.kind (0, l) = (0, rgR p l) ∧ (p.kind = 3 → noOk (filP p (0, l)).no = true) := by
  rw [kk_iff] at hk
  unfold rgE at h
  unfold filS rgR
  by_cases h1 : p.kind = 1
  · rw [if_pos h1] at h ⊢
    rw [if_pos h1, fixS_zero, if_pos h]
    exact ⟨rfl, fun e => by omega⟩
  · rw [if_neg h1] at h ⊢
    rw [if_neg h1]
    by_cases h2 : p.kind = 2
    · rw [if_pos h2] at h ⊢
      rw [if_pos h2]
      split at h
      · rename_i h0
        rw [fixS_zero, if_pos h0, fixS_zero, if_pos h]
        exact ⟨rfl, fun e => by omega⟩
      · rename_i h0
        exact absurd h h0
    · have h3 : p.kind = 3 := by omega
      rw [if_neg h2] at h ⊢
      rw [if_neg h2]
      rw [if_pos h3] at h
      split at h
      · rename_i h0
        rw [numS_zero, if_pos h0]
        refine ⟨rfl, fun _ => ?_⟩
        unfold filP
        rw [if_neg h1, if_neg h2]
        show noOk (sg (getN l).1) = true
        rw [no_sg _ (getN_lt l)]
        simp only [decide_eq_true_eq]
        split at h
        · omega
        · omega
      · rename_i h0
        exact absurd h h0
theorem fil_bad (p : Pk) (l : List UInt8) (hk : kk p.kind = true) (h : rgE p l ≠ 0) : ((filS p.kind (0, l)).1 ≠ 0 ∧ (filS p.kind (0, l)).1 = (rgE p l : Int)) ∨ ((filS p.kind (0, l)).1 = 0 ∧ p.kind = 3 ∧ noOk (filP p (0, l)).no = false ∧ rgE p l = 2) := by
  rw [kk_iff] at hk
  unfold rgE at h ⊢
  unfold filS
  by_cases h1 : p.kind = 1
  · rw [if_pos h1] at h ⊢
    rw [if_pos h1, fixS_zero, if_neg h]
    exact .inl ⟨by simp only; omega, rfl⟩
  · rw [if_neg h1] at h ⊢
    rw [if_neg h1]
    by_cases h2 : p.kind = 2
    · rw [if_pos h2] at h ⊢
      rw [if_pos h2]
      by_cases h0 : (getF l 8).2.2 = 0
      · rw [if_pos h0] at h ⊢
        rw [fixS_zero, if_pos h0, fixS_zero, if_neg h]
        exact .inl ⟨by simp only; omega, rfl⟩
      · rw [if_neg h0] at h ⊢
        rw [fixS_zero, if_neg h0, fixS_bad _ (by omega)]
        exact .inl ⟨by simp only; omega, rfl⟩
    · have h3 : p.kind = 3 := by omega
      rw [if_neg h2] at h ⊢
      rw [if_neg h2]
      rw [if_pos h3] at h ⊢
      by_cases h0 : (getN l).2.2 = 0
      · rw [if_pos h0] at h ⊢
        rw [numS_zero, if_pos h0]
        by_cases hx : 1152921504606846976 < (getN l).1
        · rw [if_pos hx]
          refine .inr ⟨rfl, h3, ?_, rfl⟩
          unfold filP
          rw [if_neg h1, if_neg h2]
          show noOk (sg (getN l).1) = false
          rw [no_sg _ (getN_lt l)]
          exact decide_eq_false (by omega)
        · rw [if_neg hx] at h
          exact absurd rfl h
      · rw [if_neg h0] at h ⊢
        rw [numS_zero, if_neg h0]
        exact .inl ⟨by simp only; omega, rfl⟩
/-- Get where something is wrong. -/
theorem upget_bad (p : Pk) (g : Nat) (l : List UInt8) (w : World) (h : RR w g (0, l)) (he : rgE p l ≠ 0) :
    Calls Tryz.prog 33 #[.pointer (some ⟨g, 0, none⟩), pval p] w fun e w' => e = .returned (.tuple #[pval zero, .int .i64 ((rgE p l : Nat) : Int)]) ∧ RStep w w' g := by
  cases hk : kk p.kind with
  | false =>
    rw [show rgE p l = 7 from by
      have := (not_congr (kk_iff p.kind)).1 (by rw [hk]; decide)
      unfold rgE
      rw [if_neg (by omega), if_neg (by omega), if_neg (by omega)]]
    exact (pget_kind p g (0, l) w hk h).mono fun e w' hq => ⟨hq.1, hq.2.2⟩
  | true =>
    rcases fil_bad p l hk he with ⟨h1, h2⟩ | ⟨h1, h2, h3, h4⟩
    · have := pget_err p g (0, l) w hk h h1
      rw [h2] at this
      exact this.mono fun e w' hq => ⟨hq.1, hq.2.2⟩
    · rw [h4]
      exact (pget_range p g (0, l) w hk h h1 h2 h3).mono fun e w' hq => ⟨hq.1, hq.2.2⟩
theorem rgE_kind {p : Pk} {l : List UInt8} (he : rgE p l = 0) : kk p.kind = true := by
  rw [kk_iff]
  unfold rgE at he
  by_cases h1 : p.kind = 1
  · exact .inl h1
  · by_cases h2 : p.kind = 2
    · exact .inr (.inl h2)
    · by_cases h3 : p.kind = 3
      · exact .inr (.inr h3)
      · rw [if_neg h1, if_neg h2, if_neg h3] at he
        cases he
/-- Get where nothing is wrong. -/
theorem upget_ok (p : Pk) (g : Nat) (l : List UInt8) (w : World) (h : RR w g (0, l)) (he : rgE p l = 0) (hr : RdB w p.ad p.body) (hn : p.ad = none → p.cap = 0) (hle : p.body.length ≤ p.cap) (hm : p.cap ≤ 140737488355328) :
    Calls Tryz.prog 33 #[.pointer (some ⟨g, 0, none⟩), pval p] w fun e w' => ∃ ad cap, e = .returned (.tuple #[pval (memP (filP p (0, l)) ad cap), .int .i64 0]) ∧ Hid (RdB w' ad p.body) ∧ Hid (RR w' g (0, rgR p l)) ∧ Hid (RStep w w' g) := by
  have hk := rgE_kind he
  obtain ⟨h1, h2⟩ := fil_ok p l hk he
  have := pget_ok p g (0, l) w hk h (by rw [h1]) h2 hr hn hle hm
  rwa [h1] at this
/-- What was put. -/
theorem puls_fits (p : Pk) : pulS 40 (0, []) p = (0, pulB p) := by
  have e : ∀ x, (fixB x 8).length = 8 := fixB_len 8
  have hf : ∀ (l : List UInt8) x, l.length ≤ 8 → wFix 40 (0, l) x 8 = (0, l ++ fixB x 8) := fun l x hl => by
    unfold wFix
    rw [if_pos (by decide)]
    rw [wByte_fits _ rfl (by show ¬ 40 - l.length < (fixB x 8).length; rw [e]; omega)]
    rfl
  unfold pulS pulB
  by_cases h1 : p.kind = 1
  · rw [if_pos h1, if_pos h1, hf _ _ (by simp)]; rfl
  · rw [if_neg h1, if_neg h1]
    by_cases h2 : p.kind = 2
    · rw [if_pos h2, if_pos h2, hf _ _ (by simp), List.nil_append, hf _ _ (by rw [e]; omega)]
    · rw [if_neg h2, if_neg h2]
      unfold wNum
      rw [wByte_fits _ rfl (by have := sev_len10 (un p.no) (un_lt _); show ¬ 40 - ([] : List UInt8).length < _; simp only [List.length_nil]; omega)]
      rfl
theorem pulB_len (p : Pk) : (pulB p).length ≤ 16 := by
  unfold pulB
  split
  · rw [fixB_len]; omega
  · split
    · rw [List.length_append, fixB_len, fixB_len]; omega
    · have := sev_len10 (un p.no) (un_lt _); omega
theorem sg_un (x : Int) (h : -9223372036854775808 ≤ x ∧ x ≤ 9223372036854775807) : sg (un x) = x := by
  unfold sg un
  rw [IntKind.wrap_i64]
  omega
theorem getF_put (x : Int) (r : List UInt8) : getF (fixB (un x) 8 ++ r) 8 = (un x, r, 0) := by
  have h := getF_fix (un x) 8 (by omega) (by omega) r
  rw [Nat.mod_eq_of_lt (by have := un_lt x; show un x < 256 ^ 8; omega)] at h
  exact h
theorem puls_got (p : Pk) (h : pulG p = true) (hs : -9223372036854775808 ≤ p.stamp ∧ p.stamp ≤ 9223372036854775807) (hv : -9223372036854775808 ≤ p.value ∧ p.value ≤ 9223372036854775807) :
    rgE (headP p) (pulB p) = 0 ∧ rgR (headP p) (pulB p) = [] ∧ ∀ ad cap, eqP p (memP (filP (headP p) (0, pulB p)) ad cap) = true := by
  have h1 := h
  unfold pulG at h1
  simp only [Bool.and_eq_true, noOk_iff, eqP_iff, kk_iff] at h1
  obtain ⟨hk, -, hn, he⟩ := h1
  have hno : sg (un p.no) = p.no := sg_un p.no (by omega)
  have g1 := getF_put p.stamp []
  rw [List.append_nil] at g1
  have g2 := getF_put p.stamp (fixB (un p.value) 8)
  have g3 := getF_put p.value []
  rw [List.append_nil] at g3
  have g4 := getN_sev (un p.no) (un_lt _) []
  rw [List.append_nil] at g4
  unfold rgE rgR filP pulB
  unfold offP headP at he
  unfold headP memP
  simp only
  by_cases h1 : p.kind = 1
  · rw [if_pos h1] at he
    simp only at he
    simp only [if_pos h1, g1]
    refine ⟨trivial, trivial, fun ad cap => (eqP_iff _ _).2 ?_⟩
    obtain ⟨-, -, -, e1, e2, e3, e4, -, e5, e6⟩ := he
    exact ⟨rfl, rfl, rfl, e1, e2, e3, e4, (sg_un _ hs).symm, e5, e6⟩
  · rw [if_neg h1] at he
    by_cases h2 : p.kind = 2
    · rw [if_pos h2] at he
      simp only at he
      simp only [if_neg h1, if_pos h2, g2, g3, fixS_zero, if_true]
      refine ⟨trivial, trivial, fun ad cap => (eqP_iff _ _).2 ?_⟩
      obtain ⟨-, -, -, e1, e2, e3, e4, -, -, e6⟩ := he
      exact ⟨rfl, rfl, rfl, e1, e2, e3, e4, (sg_un _ hs).symm, (sg_un _ hv).symm, e6⟩
    · have h3 : p.kind = 3 := by omega
      rw [if_neg h2] at he
      simp only at he
      have hx : ¬ 1152921504606846976 < un p.no := by unfold un; omega
      simp only [if_neg h1, if_neg h2, if_pos h3, g4, if_true, if_neg hx]
      refine ⟨trivial, trivial, fun ad cap => (eqP_iff _ _).2 ?_⟩
      obtain ⟨-, -, -, -, e2, e3, e4, e5, e6, e7⟩ := he
      exact ⟨rfl, rfl, rfl, hno.symm, e2, e3, e4, e5, e6, e7⟩
end Go.Proofs.YtanfnhgaooafeaaGreatDoor.Pul
