/- Contracts of the document's own answers for layer nodes (3): decimal digits, and a set's text. -/
import Derived.Test.YtljkpcckfammmaaDoorNodesE
import Derived.Lib.ItoaNum
import Derived.Lib.Join
namespace Go.Proofs.YtljkpcckfammmaaDoor.Nodes
open Go.ChangeShapes Go.WideShapes Go.ChangeAt Go.RowKit
set_option linter.unusedVariables false
theorem ret_str {a b : ByteArray} (h : a = b) : Ending.returned (.string a) = .returned (.string b) := by rw [h]
theorem bytes_append (a b : List UInt8) : (⟨a.toArray⟩ : ByteArray) ++ ⟨b.toArray⟩ = ⟨(a ++ b).toArray⟩ := by
  apply ByteArray.ext
  rw [ByteArray.data_append]
  simp
theorem digit_at : ∀ r, r < 10 → (⟨#[48, 49, 50, 51, 52, 53, 54, 55, 56, 57]⟩ : ByteArray).extract r (r + 1) = ⟨#[UInt8.ofNat (48 + r)]⟩ := by decide +kernel
theorem dec_one {n : Nat} (h : n < 10) : Go.Lib.decDigits n = [UInt8.ofNat (48 + n)] := by unfold Go.Lib.decDigits; rw [dif_pos h]
theorem dec_two {n : Nat} (h : ¬ n < 10) : Go.Lib.decDigits n = Go.Lib.decDigits (n / 10) ++ [UInt8.ofNat (48 + n % 10)] := by rw [Go.Lib.decDigits, dif_neg h]
theorem dec_len {n : Nat} (h : n < 100) : (Go.Lib.decDigits n).length ≤ 2 ∧ Go.Lib.decDigits n ≠ [] := by
  by_cases h1 : n < 10
  · rw [dec_one h1]; simp
  · rw [dec_two h1, dec_one (by omega)]; simp
theorem digits_one (n : Nat) (h : n < 10) (w : World) :
    Calls Tryd.prog 40 #[.int .i64 n] w fun e w' => e = .returned (.string ⟨(Go.Lib.decDigits n).toArray⟩) ∧ w = w' := by
  have h2 : (n : Int) % 10 = n := by omega
  have HD := Lib.hid (digit_at n h)
  have HO := Lib.hid (dec_one h)
  go_enter Tryd.func40, Tryd.ntmps40
  go_wp2
  go_ret
  exact ⟨ret_str (by rw [HO.out]; exact HD.out), rfl⟩
theorem digits_two (n : Nat) (h : n < 100) (h' : 10 ≤ n) (w : World) :
    Calls Tryd.prog 40 #[.int .i64 n] w fun e w' => e = .returned (.string ⟨(Go.Lib.decDigits n).toArray⟩) ∧ w = w' := by
  have HO := Lib.hid (dec_two (show ¬ n < 10 by omega))
  obtain ⟨q, hq⟩ : ∃ q, Hid (q = n / 10) := ⟨_, Lib.hid rfl⟩
  obtain ⟨r, hr⟩ : ∃ r, Hid (r = n % 10) := ⟨_, Lib.hid rfl⟩
  rw [← hq.out, ← hr.out] at HO
  have h1 : r < 10 := by have := hr.out; omega
  have h2 : (n : Int) % 10 = (r : Int) := by have := hr.out; omega
  have h3 : (n : Int) / 10 = (q : Int) := by have := hq.out; omega
  have h4 : q < 10 := by have := hq.out; omega
  have h5 := (dec_len (show q < 100 by omega)).1
  have HD := Lib.hid (digit_at r h1)
  have C := Lib.hid (fun W => digits_one q h4 W)
  generalize Go.Lib.decDigits q = dq at *
  go_enter Tryd.func40, Tryd.ntmps40
  go_wp2_with fail
  refine (C.out _).mono ?_; rintro e w' ⟨rfl, rfl⟩
  go_wp2_with fail
  go_ret
  exact ⟨ret_str (by rw [HO.out]; exact (congrArg (fun b : ByteArray => ⟨dq.toArray⟩ ++ b) HD.out).trans (bytes_append dq [_])), rfl⟩
theorem digits_any (n : Nat) (h : n < 100) (w : World) :
    Calls Tryd.prog 40 #[.int .i64 n] w fun e w' => e = .returned (.string ⟨(Go.Lib.decDigits n).toArray⟩) ∧ w = w' := by
  by_cases h' : n < 10
  · exact digits_one n h' w
  · exact digits_two n h (by omega) w

theorem join_snoc (xs : List (List UInt8)) (y sep : List UInt8) (h : xs ≠ []) : Go.Lib.join (xs ++ [y]) sep = Go.Lib.join xs sep ++ (sep ++ y) := by
  cases xs with
  | nil => exact absurd rfl h
  | cons x r =>
    rw [List.cons_append, Go.Lib.join_cons, Go.Lib.join_cons]
    simp [Go.Lib.joinTail]
def txt (ms : List Nat) : List UInt8 := Go.Lib.join (ms.map Go.Lib.decDigits) [44]
theorem txt_nil : txt [] = [] := rfl
theorem txt_one (x : Nat) : txt [x] = Go.Lib.decDigits x := by simp [txt, Go.Lib.join_one]
theorem txt_snoc (ms : List Nat) (x : Nat) (h : ms ≠ []) : txt (ms ++ [x]) = txt ms ++ [44] ++ Go.Lib.decDigits x := by
  unfold txt
  rw [List.map_append, List.map_cons, List.map_nil, join_snoc _ _ _ (by simpa using h)]
  simp
theorem txt_len_n (n : Nat) : ∀ ms : List Nat, ms.length = n → (∀ x ∈ ms, x < 100) → (txt ms).length ≤ 3 * n ∧ (ms ≠ [] → txt ms ≠ []) := by
  induction n with
  | zero =>
    intro ms h _
    rw [List.eq_nil_of_length_eq_zero h]
    simp [txt_nil]
  | succ n ih =>
    intro ms h hx
    rcases List.eq_nil_or_concat ms with rfl | ⟨l, a, rfl⟩
    · simp at h
    · rw [List.concat_eq_append] at *
      rw [List.length_append] at h
      have ha := dec_len (hx a (by simp))
      have hl := ih l (by simpa using h) (fun x hx' => hx x (by simp [hx']))
      by_cases h0 : l = []
      · subst h0
        rw [List.nil_append, txt_one]
        exact ⟨by omega, fun _ => ha.2⟩
      · rw [txt_snoc l a h0]
        exact ⟨by simp; omega, fun _ => by simp⟩
theorem txt_len (ms : List Nat) (h : ∀ x ∈ ms, x < 100) : (txt ms).length ≤ 3 * ms.length ∧ (ms ≠ [] → txt ms ≠ []) := txt_len_n ms.length ms rfl h
def textN (S : Nat) : List UInt8 := if S = 0 then [45] else txt (mem S)

theorem take_nat {ms : List Nat} {k : Nat} (hk : k < ms.length) : ms.take (k + 1) = ms.take k ++ [ms.getD k 0] ∧ ms.getD k 0 ∈ ms := by
  have e : ms.getD k 0 = ms[k] := by simp [hk]
  rw [List.take_succ_eq_append_getElem hk, e]
  exact ⟨rfl, List.getElem_mem hk⟩
theorem memI_getD {S k : Nat} (hk : k < (mem S).length) : (memI S).getD k 0 = ((mem S).getD k 0 : Nat) := by
  simp [memI, List.getD, hk]

theorem rtext_any (S : Nat) (hS : S < 18446744073709551616) (w : World) :
    Calls Tryd.prog 27 #[.int .u64 S] w fun e w' => e = .returned (.string ⟨(textN S).toArray⟩) ∧ Below w.heap.size w w' := by
  have C := Lib.hid (rlist_any S hS w)
  have HM := Lib.hid (mem_eq_nil hS)
  have HN := mem_le S
  have HI : Hid (∀ k, k < (mem S).length → (memI S).getD k 0 = ((mem S).getD k 0 : Nat)) := Lib.hid (fun k hk => memI_getD hk)
  have HL := Lib.hid (memI_len S)
  have HX := Lib.hid (show ∀ x ∈ mem S, x < 100 from fun x hx => by have := mem_lt x hx; omega)
  have HT := Lib.hid (show textN S = if S = 0 then [45] else txt (mem S) from rfl)
  generalize mem S = ms at *
  generalize memI S = mi at *
  go_enter Tryd.func27, Tryd.ntmps27
  go_wp2_with fail
  refine (C.out).mono ?_; rintro e w1 ⟨ad1, cap1, rfl, hown, hB⟩
  have HR := Lib.hid hown.rd.1
  obtain ⟨n, hn⟩ : ∃ n, Hid (ms.length = n) := ⟨_, Lib.hid rfl⟩
  have hmi : Hid (mi.length = n) := Lib.hid (HL.out.trans hn.out)
  rw [hmi.out]
  rw [hn.out] at HN
  clear hown
  go_wp2_with fail
  go_loop [3, 5] (fun t i => ∃ (k : Nat) (l : List UInt8), k ≤ n ∧ i = .int .i64 k ∧ t = .string ⟨l.toArray⟩ ∧ Hid (l = txt (ms.take k)) ∧ l.length ≤ 3 * k) (fun _ i => n - (intOf i).toNat)
  case atStart => exact ⟨0, [], Nat.zero_le _, rfl, rfl, Lib.hid (by rw [List.take_zero, txt_nil]), Nat.le_refl _⟩
  case round =>
    obtain ⟨k, l, hk, rfl, rfl, hl, hll⟩ := hrel
    by_cases hlt : k < n
    · obtain ⟨b, off, rfl, hc⟩ := HR.out.at (k := k) (by rw [hmi.out]; exact hlt)
      rw [HI.out k (by rw [hn.out]; exact hlt)] at hc
      obtain ⟨ht, hx⟩ := take_nat (ms := ms) (k := k) (by rw [hn.out]; exact hlt)
      have hx100 := HX.out _ hx
      have HTK := Lib.hid ht
      clear ht hx
      generalize ms.getD k 0 = x at *
      have CD := Lib.hid (fun W => digits_any x hx100 W)
      have hdl := (dec_len hx100).1
      by_cases h0 : k = 0
      · subst h0
        have HE := Lib.hid (show txt (ms.take (0 + 1)) = Go.Lib.decDigits x by rw [HTK.out, List.take_zero, List.nil_append, txt_one])
        have hl0 : l = [] := by rw [hl.out, List.take_zero, txt_nil]
        subst hl0
        rw [Nat.add_zero] at hc
        generalize Go.Lib.decDigits x = dx at *
        go_wp2_with fail
        refine (CD.out _).mono ?_; rintro e w' ⟨rfl, rfl⟩
        go_wp2_with fail
        go_round
        case rel => exact ⟨0 + 1, dx, by omega, by go_num, by first | rfl | simp, Lib.hid HE.out.symm, by omega⟩
        case measure => simp [intOf]; omega
      · have HE := Lib.hid (show txt (ms.take (k + 1)) = l ++ [44] ++ Go.Lib.decDigits x by
          rw [HTK.out, txt_snoc _ _ (fun h => by have := congrArg List.length h; rw [List.length_take, hn.out] at this; simp at this; omega), hl.out])
        have hpos : 0 < k := by omega
        generalize Go.Lib.decDigits x = dx at *
        clear h0
        go_wp2_with fail
        refine (CD.out _).mono ?_; rintro e w' ⟨rfl, rfl⟩
        go_wp2_with fail
        go_round
        case rel => exact ⟨k + 1, l ++ [44] ++ dx, by omega, by go_num, congrArg Value.string ((congrArg (fun b : ByteArray => b ++ ⟨dx.toArray⟩) (bytes_append l [44])).trans (bytes_append (l ++ [44]) dx)), Lib.hid HE.out.symm, by simp; omega⟩
        case measure => simp [intOf]; omega
    · obtain rfl : k = n := by omega
      have HTK := Lib.hid (show ms.take k = ms from List.take_of_length_le (by rw [hn.out]; exact Nat.le_refl _))
      have HLL := Lib.hid (show l = txt ms by rw [hl.out, HTK.out])
      by_cases h0 : S = 0
      · have hms : ms = [] := HM.out.2 h0
        have hl0 : l = [] := by rw [HLL.out, hms, txt_nil]
        subst hl0
        have HF := Lib.hid (show textN S = [45] by rw [HT.out, if_pos h0])
        clear h0
        go_wp2_with fail
        go_ret
        exact ⟨ret_str (by rw [HF.out]), hB⟩
      · have hne : l.isEmpty = false := by
          rw [HLL.out, List.isEmpty_eq_false_iff]
          exact (txt_len ms HX.out).2 (fun e => h0 (HM.out.1 e))
        have HF := Lib.hid (show textN S = l by rw [HT.out, if_neg h0, HLL.out])
        clear h0
        go_wp2_with fail
        go_ret
        exact ⟨ret_str (by rw [HF.out]), hB⟩
end Go.Proofs.YtljkpcckfammmaaDoor.Nodes
