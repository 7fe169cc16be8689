/- Lists of keys: in order, each once, the first one that stood there ahead: plain mathematics. -/
import Derived.Test.YtolcidilnmjlmaaKeyE
namespace Go.Proofs.Ytolcidilnmjlmaa.Key
open Go.RowKit
set_option linter.unusedVariables false
theorem lt_irrefl (x : Ky) : ltK x x = false := by unfold ltK; rw [decide_eq_false_iff_not]; omega
theorem lt_trans {x y z : Ky} (h : ltK x y = true) (h' : ltK y z = true) : ltK x z = true := by unfold ltK at *; rw [decide_eq_true_iff] at *; omega
theorem lt_total {x y : Ky} (h : ltK x y = false) (h' : ltK y x = false) : x = y := by
  unfold ltK at *
  rw [decide_eq_false_iff_not] at *
  obtain ⟨a, b, c⟩ := x
  obtain ⟨d, e, f⟩ := y
  simp only at h h'
  have h1 : a = d := by omega
  have h2 : b = e := by omega
  have h3 : c = f := by omega
  rw [h1, h2, h3]
theorem lt_asymm {x y : Ky} (h : ltK x y = true) : ltK y x = false := by unfold ltK at *; rw [decide_eq_true_iff] at h; rw [decide_eq_false_iff_not]; omega
theorem lt_ntrans {x y z : Ky} (h : ltK x y = false) (h' : ltK y z = false) : ltK x z = false := by unfold ltK at *; rw [decide_eq_false_iff_not] at *; omega
def Str (l : List Ky) : Prop := l.Pairwise (fun x y => ltK x y = true)
theorem str_uniq : ∀ {l l' : List Ky}, Str l → Str l' → (∀ x, x ∈ l ↔ x ∈ l') → l = l'
  | [], [], _, _, _ => rfl
  | [], y :: l', _, _, h => absurd ((h y).2 (by simp)) (by simp)
  | x :: l, [], _, _, h => absurd ((h x).1 (by simp)) (by simp)
  | x :: l, y :: l', h1, h2, h => by
    obtain ⟨a1, b1⟩ := List.pairwise_cons.1 h1
    obtain ⟨a2, b2⟩ := List.pairwise_cons.1 h2
    have hxy : x = y := by
      rcases List.mem_cons.1 ((h x).1 (by simp)) with e | hm
      · exact e
      · rcases List.mem_cons.1 ((h y).2 (by simp)) with e | hm'
        · exact e.symm
        · have := lt_asymm (a1 y hm')
          rw [a2 x hm] at this
          cases this
    subst hxy
    rw [str_uniq b1 b2 (fun z => ?_)]
    constructor
    · intro hz
      rcases List.mem_cons.1 ((h z).1 (by simp [hz])) with e | hm
      · have := a1 z hz
        rw [e, lt_irrefl] at this
        cases this
      · exact hm
    · intro hz
      rcases List.mem_cons.1 ((h z).2 (by simp [hz])) with e | hm
      · have := a2 z hz
        rw [e, lt_irrefl] at this
        cases this
      · exact hm
theorem mem_ins {x z : Ky} : ∀ {l : List Ky}, z ∈ insK x l ↔ z = x ∨ z ∈ l
  | [] => by simp [insK]
  | y :: l => by
    unfold insK
    split
    · simp
    · rw [List.mem_cons, mem_ins, List.mem_cons]
      constructor
      · rintro (h | h | h) <;> simp [h]
      · rintro (h | h | h) <;> simp [h]
theorem str_ins {x : Ky} : ∀ {l : List Ky}, Str l → x ∉ l → Str (insK x l)
  | [], _, _ => by simp [insK, Str]
  | y :: l, h, hx => by
    obtain ⟨a, b⟩ := List.pairwise_cons.1 h
    unfold insK
    split
    · rename_i hlt
      exact List.pairwise_cons.2 ⟨fun z hz => by
        rcases List.mem_cons.1 hz with rfl | hz
        · exact hlt
        · exact lt_trans hlt (a z hz), h⟩
    · rename_i hlt
      refine List.pairwise_cons.2 ⟨fun z hz => ?_, str_ins b (fun hm => hx (by simp [hm]))⟩
      rcases mem_ins.1 hz with rfl | hz
      · cases hyz : ltK y z with
        | true => rfl
        | false => exact absurd (lt_total (by simpa using hlt) hyz) (fun e => hx (by simp [e]))
      · exact a z hz
theorem mem_into {l : List Ky} {x z : Ky} : z ∈ intoK l x ↔ z = x ∨ z ∈ l := by
  unfold intoK inK
  by_cases h : x ∈ l
  · simp only [h, decide_true, if_true]
    exact ⟨fun hz => .inr hz, fun hz => by rcases hz with rfl | hz; exact h; exact hz⟩
  · simp only [h, decide_false, Bool.false_eq_true, if_false]
    exact mem_ins
theorem str_into {l : List Ky} {x : Ky} (h : Str l) : Str (intoK l x) := by
  unfold intoK inK
  by_cases hx : x ∈ l
  · simp only [hx, decide_true, if_true]; exact h
  · simp only [hx, decide_false, Bool.false_eq_true, if_false]; exact str_ins h hx
def sortK (l : List Ky) : List Ky := l.foldl intoK []
theorem sort_snoc (l : List Ky) (x : Ky) : sortK (l ++ [x]) = intoK (sortK l) x := by unfold sortK; rw [List.foldl_append]; rfl
theorem fold_facts : ∀ (l acc : List Ky), Str acc → Str (l.foldl intoK acc) ∧ (∀ z, z ∈ l.foldl intoK acc ↔ z ∈ l ∨ z ∈ acc) ∧ (l.foldl intoK acc).length ≤ acc.length + l.length
  | [], acc, h => ⟨h, by simp, by simp⟩
  | x :: l, acc, h => by
    obtain ⟨h1, h2, h3⟩ := fold_facts l (intoK acc x) (str_into h)
    refine ⟨h1, fun z => ?_, ?_⟩
    · rw [List.foldl_cons, h2 z, mem_into, List.mem_cons]
      constructor
      · rintro (h | h | h) <;> simp [h]
      · rintro ((h | h) | h) <;> simp [h]
    · rw [List.foldl_cons, List.length_cons]
      have : (intoK acc x).length ≤ acc.length + 1 := by
        unfold intoK; split
        · omega
        · rw [insK_len]; omega
      omega
theorem sort_str (l : List Ky) : Str (sortK l) := (fold_facts l [] List.Pairwise.nil).1
theorem mem_sort (l : List Ky) (z : Ky) : z ∈ sortK l ↔ z ∈ l := by rw [sortK, (fold_facts l [] List.Pairwise.nil).2.1 z]; simp
theorem sort_len (l : List Ky) : (sortK l).length ≤ l.length := by have := (fold_facts l [] List.Pairwise.nil).2.2; simpa [sortK] using this
/-- Each once. -/
def uniK : List Ky → List Ky → List Ky
  | _, [] => []
  | s, x :: r => if inK s x then uniK (s ++ [x]) r else x :: uniK (s ++ [x]) r
theorem uni_facts : ∀ (r s : List Ky), (∀ z, z ∈ uniK s r ↔ z ∈ r ∧ z ∉ s) ∧ (uniK s r).Nodup ∧ (uniK s r).length ≤ r.length
  | [], s => by simp [uniK]
  | x :: r, s => by
    obtain ⟨h1, h2, h3⟩ := uni_facts r (s ++ [x])
    unfold uniK inK
    by_cases hx : x ∈ s
    · simp only [hx, decide_true, if_true]
      refine ⟨fun z => ?_, h2, by rw [List.length_cons]; omega⟩
      rw [h1 z]
      simp only [List.mem_append, List.mem_cons, List.not_mem_nil, or_false, not_or]
      constructor
      · rintro ⟨a, b, c⟩; exact ⟨.inr a, b⟩
      · rintro ⟨a | a, b⟩
        · subst a; exact absurd hx b
        · exact ⟨a, b, fun e => by subst e; exact b hx⟩
    · simp only [hx, decide_false, Bool.false_eq_true, if_false]
      refine ⟨fun z => ?_, List.nodup_cons.2 ⟨fun hm => ?_, h2⟩, by rw [List.length_cons, List.length_cons]; omega⟩
      · rw [List.mem_cons, h1 z]
        simp only [List.mem_append, List.mem_cons, List.not_mem_nil, or_false, not_or]
        constructor
        · rintro (a | ⟨a, b, c⟩)
          · subst a; exact ⟨.inl rfl, hx⟩
          · exact ⟨.inr a, b⟩
        · rintro ⟨a | a, b⟩
          · exact .inl a
          · by_cases e : z = x
            · exact .inl e
            · exact .inr ⟨a, b, e⟩
      · exact absurd ((h1 x).1 hm).2 (by simp)
/-- The first one that stood there ahead. -/
def twoK : List Ky → List Ky → Ky × Bool
  | _, [] => ((0, 0, 0), false)
  | s, x :: r => if inK s x then (x, true) else twoK (s ++ [x]) r
theorem two_snoc (x : Ky) : ∀ (r s : List Ky), twoK s (r ++ [x]) = if (twoK s r).2 then twoK s r else if inK (s ++ r) x then (x, true) else ((0, 0, 0), false)
  | [], s => by simp [twoK]
  | y :: r, s => by
    unfold twoK
    by_cases hy : inK s y = true
    · simp [hy]
    · simp only [hy, Bool.false_eq_true, if_false, List.cons_append]
      have := two_snoc x r (s ++ [y])
      rw [List.append_assoc] at this
      simpa using this
theorem two_none : ∀ (r s : List Ky), (twoK s r).2 = false → twoK s r = ((0, 0, 0), false)
  | [], s, _ => rfl
  | y :: r, s, h => by
    unfold twoK at *
    by_cases hy : inK s y = true
    · simp [hy] at h
    · simp only [hy, Bool.false_eq_true, if_false] at *
      exact two_none r _ h
theorem two_nodup : ∀ (r s : List Ky), (s ++ r).Nodup → twoK s r = ((0, 0, 0), false)
  | [], s, _ => rfl
  | y :: r, s, h => by
    unfold twoK
    have hy : inK s y = false := by
      unfold inK
      rw [decide_eq_false_iff_not]
      intro hm
      rw [List.nodup_append] at h
      exact h.2.2 y hm y (by simp) rfl
    simp only [hy, Bool.false_eq_true, if_false]
    exact two_nodup r _ (by rw [List.append_assoc]; simpa using h)
theorem str_nodup {l : List Ky} (h : Str l) : l.Nodup := h.imp (fun {x y} hxy e => by rw [e, lt_irrefl] at hxy; cases hxy)
theorem ris_str {l : List Ky} (h : Str l) : risK l = true := by
  unfold risK
  rw [List.all_eq_true]
  intro j hj
  rw [List.mem_range] at hj
  have := List.pairwise_iff_getElem.1 h j (j + 1) (by omega) (by omega) (by omega)
  simpa [List.getD, show j < l.length by omega, show j + 1 < l.length by omega] using this
theorem ris_snoc (l : List Ky) (x : Ky) : risK (l ++ [x]) = (risK l && (decide (l.length = 0) || ltK (l.getD (l.length - 1) default) x)) := by
  by_cases h0 : l.length = 0
  · have : l = [] := List.eq_nil_of_length_eq_zero h0
    subst this
    rfl
  · unfold risK
    obtain ⟨n, hn⟩ : ∃ n, l.length = n + 1 := ⟨l.length - 1, by omega⟩
    rw [List.length_append, hn, show n + 1 + [x].length - 1 = n + 1 from rfl, List.range_succ, List.all_append, show n + 1 - 1 = n from rfl]
    congr 1
    · rw [Bool.eq_iff_iff, List.all_eq_true, List.all_eq_true]
      refine forall_congr' fun j => forall_congr' fun hj => ?_
      rw [List.mem_range] at hj
      simp [List.getD, List.getElem?_append_left (show j < l.length by omega), List.getElem?_append_left (show j + 1 < l.length by omega)]
    · simp [List.getD, List.getElem?_append_left (show n < l.length by omega), hn]
/-- What the library's sort leaves of keys that are each once is the list in order. -/
theorem sorted_is {l ts : List Ky} (hp : ts.Perm (uniK [] l)) (hs : ∀ i j, i < j → j < ts.length → ltK (ts.getD j default) (ts.getD i default) = false) : ts = sortK l := by
  obtain ⟨h1, h2, h3⟩ := uni_facts l []
  have hnd : ts.Nodup := hp.nodup_iff.2 h2
  refine str_uniq ?_ (sort_str l) (fun z => ?_)
  · refine List.pairwise_iff_getElem.2 fun i j hi hj hij => ?_
    have := hs i j hij hj
    simp only [List.getD, List.getElem?_eq_getElem hi, List.getElem?_eq_getElem hj, Option.getD_some] at this
    cases h : ltK ts[i] ts[j] with
    | true => rfl
    | false => exact absurd (lt_total h this) (List.pairwise_iff_getElem.1 hnd i j hi hj hij)
  · rw [hp.mem_iff, h1 z, mem_sort]
    simp
end Go.Proofs.Ytolcidilnmjlmaa.Key
