/- Contracts of the document's own sort (layer 24). -/
import Derived.Test.YtcadmepfnafpmaaTrmA
namespace Go.Proofs.Ytcadmepfnafpmaa.Trm
open Go.ChangeShapes Go.WideShapes Go.ChangeAt Go.RowKit
open I64s (In64 Sl OwnL ListPost app_one)
set_option linter.unusedVariables false
theorem own_lit (w : World) : OwnL (w.alloc (.cells #[] 2)) w.heap.size (.slice (some ⟨w.heap.size, 0, none⟩) 0 0) [] := World.ownsRow_lit (size := 1) w #[] 0 (Nat.le_refl _) (by unfold maxLen; omega) rfl
theorem rtinto_any (ad : Option Addr) (cap : Nat) (l : List Int) (x : Int) (w : World) (h : Sl w ad cap l) (hm : l.length ≤ 1000) :
    Calls Try.prog 40 #[.slice ad l.length cap, .int .i64 x] w (ListPost (into l x) w) := by
  obtain ⟨n, hn⟩ : ∃ n, l.length = n := ⟨_, rfl⟩
  have HA := Lib.hid (fun k (hk : k < n) => h.at (k := k) (by omega))
  have HT := Lib.hid (fun k (hk : k < n) => I64s.take_succ' (zs := l) (k := k) (by omega))
  have HF : Hid (l.take n = l) := Lib.hid (by rw [← hn]; exact List.take_length)
  have HE := Lib.hid (soFar_end l x)
  have HN := Lib.hid (fun k => Nat.le_trans (soFar_len (l.take k) x) (show (l.take k).length + 1 ≤ 1001 by rw [List.length_take]; omega))
  have HN2 : Hid (∀ m, (into l x).length = m → m = n + 1) := Lib.hid (fun m e => by rw [← e, into_len, hn])
  have hB0 : Below w.heap.size w (w.alloc (.cells #[] 2)) := (Below.refl _ _).alloc (Nat.le_refl _) _
  rw [hn] at hm ⊢
  clear h hn
  go_enter Try.func40, Try.ntmps40
  go_wp2_with fail
  go_loopw [5, 6, 7] (fun v b i wr => ∃ k : Nat, k ≤ n ∧ i = .int .i64 k ∧ b = .bool (inB (l.take k) x) ∧ (∃ ad' m' cap', v = .slice ad' m' cap' ∧ Hid (OwnL wr w.heap.size (.slice ad' m' cap') (soFar (l.take k) x))) ∧ Hid (Below w.heap.size w wr)) (fun _ _ i _ => n - (intOf i).toNat)
  case atStart => exact ⟨0, Nat.zero_le _, rfl, rfl, ⟨_, _, _, rfl, Lib.hid (own_lit w)⟩, Lib.hid hB0⟩
  case round =>
    clear hB0
    obtain ⟨k, hk, rfl, rfl, ⟨ad0, m0, cap0, rfl, HO⟩, HB⟩ := hrel
    by_cases hlt : k < n
    · obtain ⟨b, off, rfl, hcW⟩ := HA.out k hlt
      have HT1 := Lib.hid (HT.out k hlt)
      have hl := HN.out k
      generalize l.getD k 0 = z at *
      have HCW := Lib.hid hcW
      have hc := hcW wr HB.out
      clear hcW
      have hsz := HB.out.size
      cases hin : inB (l.take k) x with
      | true =>
        have H1 : Hid (inB (l.take (k + 1)) x = true ∧ soFar (l.take (k + 1)) x = soFar (l.take k) x ++ [z]) := Lib.hid (by rw [HT1.out, inB_snoc, hin, soFar_in hin]; exact ⟨rfl, rfl⟩)
        have hown := HO.out
        generalize soFar (l.take k) x = s at *
        clear HT1 hin HO
        go_wp2_with (at_builtin; refine app_one rfl _ _ rfl w.heap.size _ _ rfl hown z rfl (by omega) hsz ?_; intro v' w1 hown' hB1 _ _)
        go_roundw
        case rel => exact ⟨k + 1, by omega, by go_num, by rw [H1.out.1], (by obtain ⟨a', c', e, _⟩ := Own.shape hown'; exact ⟨a', _, c', e, Lib.hid (by rw [← e, H1.out.2]; exact hown')⟩), Lib.hid (HB.out.trans hB1)⟩
        case measure => simp [intOf]; omega
      | false =>
        by_cases hx : x < z
        · have H1 : Hid (inB (l.take (k + 1)) x = true ∧ soFar (l.take (k + 1)) x = soFar (l.take k) x ++ [x] ++ [z]) := Lib.hid (by rw [HT1.out, inB_snoc, hin, soFar_now hin hx, decide_eq_true hx]; exact ⟨rfl, rfl⟩)
          have hown := HO.out
          have hlx : (soFar (l.take k) x ++ [x]).length ≤ 1002 := by rw [List.length_append]; simp only [List.length_singleton]; omega
          have d1 : decide (x < z) = true := decide_eq_true hx
          generalize soFar (l.take k) x = s at *
          clear HT1 hin HO
          go_wp2_with (first
            | (at_builtin; refine app_one rfl _ _ rfl w.heap.size _ _ rfl hown x rfl (by omega) hsz ?_; intro v1 w1 hown1 hB1 _ _; have hsz1 := Nat.le_trans hsz (Below.size hB1); have hc1 := HCW.out w1 (HB.out.trans hB1); clear hown hsz hc)
            | (at_builtin; refine app_one rfl _ _ rfl w.heap.size _ _ rfl hown1 z rfl (by omega) hsz1 ?_; intro v2 w2 hown2 hB2 _ _))
          go_roundw
          case rel => exact ⟨k + 1, by omega, by go_num, by rw [H1.out.1], (by obtain ⟨a', c', e, _⟩ := Own.shape hown2; exact ⟨a', _, c', e, Lib.hid (by rw [← e, H1.out.2]; exact hown2)⟩), Lib.hid ((HB.out.trans hB1).trans hB2)⟩
          case measure => simp [intOf]; omega
        · have H1 : Hid (inB (l.take (k + 1)) x = false ∧ soFar (l.take (k + 1)) x = soFar (l.take k) x ++ [z]) := Lib.hid (by rw [HT1.out, inB_snoc, hin, soFar_no hin hx, decide_eq_false hx]; exact ⟨rfl, rfl⟩)
          have hown := HO.out
          have d1 : decide (x < z) = false := decide_eq_false hx
          generalize soFar (l.take k) x = s at *
          clear HT1 hin HO
          go_wp2_with (at_builtin; refine app_one rfl _ _ rfl w.heap.size _ _ rfl hown z rfl (by omega) hsz ?_; intro v' w1 hown' hB1 _ _)
          go_roundw
          case rel => exact ⟨k + 1, by omega, by go_num, by rw [H1.out.1], (by obtain ⟨a', c', e, _⟩ := Own.shape hown'; exact ⟨a', _, c', e, Lib.hid (by rw [← e, H1.out.2]; exact hown')⟩), Lib.hid (HB.out.trans hB1)⟩
          case measure => simp [intOf]; omega
    · obtain rfl : k = n := by omega
      have hown := HO.out
      have hsz := HB.out.size
      have hl := HN.out k
      have HE1 := HE.out
      rw [HF.out] at hown hl ⊢
      cases hin : inB l x with
      | true =>
        have hpost : Hid (ListPost (into l x) w (.returned (.slice ad0 m0 cap0)) wr) := Lib.hid (by
          rw [hin, if_pos rfl] at HE1
          rw [HE1] at hown
          obtain ⟨ad', cap', e, _⟩ := Own.shape hown
          rw [e] at hown ⊢
          exact ⟨ad', cap', rfl, hown, HB.out⟩)
        clear hown HE1
        go_wp2_with fail
        go_ret
        exact hpost.out
      | false =>
        have HE2 : Hid (soFar l x ++ [x] = into l x) := Lib.hid (by rw [hin] at HE1; simpa using HE1)
        clear HE1
        generalize soFar l x = s at *
        go_wp2_with (at_builtin; refine app_one rfl _ _ rfl w.heap.size _ _ rfl hown x rfl (by omega) hsz ?_; intro v1 w1 hown1 hB1 _ _)
        rw [HE2.out] at hown1
        obtain ⟨ad', cap', rfl, _⟩ := Own.shape hown1
        go_wp2_with fail
        go_ret
        exact ⟨ad', cap', rfl, hown1, HB.out.trans hB1⟩
/-- The document's sort. -/
theorem rtsort_any (ad : Option Addr) (cap : Nat) (zs : List Int) (w : World) (h : Sl w ad cap zs) (hm : zs.length ≤ 1000) :
    Calls Try.prog 36 #[.slice ad zs.length cap] w (ListPost (srt zs) w) := by
  rw [← ins_srt]
  obtain ⟨n, hn⟩ : ∃ n, zs.length = n := ⟨_, rfl⟩
  have HA := Lib.hid (fun k (hk : k < n) => h.at (k := k) (by omega))
  have HT := Lib.hid (fun k (hk : k < n) => I64s.take_succ' (zs := zs) (k := k) (by omega))
  have HF : Hid (zs.take n = zs) := Lib.hid (by rw [← hn]; exact List.take_length)
  have HN := Lib.hid (fun k => show (ins (zs.take k)).length ≤ 1000 by rw [ins_srt, srt_len, List.length_take]; omega)
  have CI := Lib.hid (fun ad cap l x W (h : Sl W ad cap l) (hm : l.length ≤ 1000) => rtinto_any ad cap l x W h hm)
  have hB0 : Below w.heap.size w (w.alloc (.cells #[] 2)) := (Below.refl _ _).alloc (Nat.le_refl _) _
  rw [hn] at hm ⊢
  clear h hn
  go_enter Try.func36, Try.ntmps36
  go_wp2_with fail
  go_loopw [3, 4] (fun v i wr => ∃ k : Nat, k ≤ n ∧ i = .int .i64 k ∧ (∃ ad' cap', v = .slice ad' (ins (zs.take k)).length cap' ∧ Hid (OwnL wr w.heap.size (.slice ad' (ins (zs.take k)).length cap') (ins (zs.take k)))) ∧ Hid (Below w.heap.size w wr)) (fun _ i _ => n - (intOf i).toNat)
  case atStart => exact ⟨0, Nat.zero_le _, rfl, ⟨_, _, rfl, Lib.hid (own_lit w)⟩, Lib.hid hB0⟩
  case round =>
    clear hB0
    obtain ⟨k, hk, rfl, ⟨ad1, cap1, rfl, HO⟩, HB⟩ := hrel
    by_cases hlt : k < n
    · obtain ⟨b, off, rfl, hcW⟩ := HA.out k hlt
      have hc := hcW wr HB.out
      have HT1 : Hid (ins (zs.take (k + 1)) = into (ins (zs.take k)) (zs.getD k 0)) := Lib.hid (by rw [HT.out k hlt, ins_snoc])
      have hl := HN.out k
      generalize zs.getD k 0 = z at *
      have CI1 := Lib.hid (CI.out ad1 cap1 _ z wr (I64s.OwnL.sl HO.out) hl)
      generalize ins (zs.take k) = s at *
      clear hcW
      go_wp2_with fail
      refine (CI1.out).mono ?_; rintro e w1 ⟨ad2, cap2, rfl, hown2, hB2⟩
      go_wp2_with fail
      go_roundw
      case rel => exact ⟨k + 1, by omega, by go_num, ⟨ad2, cap2, by rw [HT1.out], Lib.hid (by rw [HT1.out]; exact Own.mono hown2 HB.out.size)⟩, Lib.hid (HB.out.trans (hB2.mono HB.out.size))⟩
      case measure => simp [intOf]; omega
    · obtain rfl : k = n := by omega
      have hown := HO.out
      rw [HF.out] at hown ⊢
      go_wp2_with fail
      go_ret
      exact ⟨_, _, rfl, hown, HB.out⟩
end Go.Proofs.Ytcadmepfnafpmaa.Trm
