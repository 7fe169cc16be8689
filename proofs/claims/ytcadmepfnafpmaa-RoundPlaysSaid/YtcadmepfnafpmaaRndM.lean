/- Plain mathematics of layer 25: readings of nodes, who noted them, in whatever order. -/
import Derived.Test.YtcadmepfnafpmaaTrmM
import Derived.Test.YtcadmepfnafpmaaNodesM
namespace Go.Proofs.Ytcadmepfnafpmaa.Rnd
set_option linter.unusedVariables false
set_option linter.unusedSimpArgs false

/-- A reading: of which node, and how much. -/
abbrev Rg := Int × Int
def hasR (L : List Rg) (x : Int) : Bool := L.any (fun p => decide (p.1 = x))
def getR (L : List Rg) (x : Int) : Int := ((L.find? (fun p => decide (p.1 = x))).map (·.2)).getD 0
def keysR (L : List Rg) : List Int := L.map (·.1)
def valsR (L : List Rg) : List Int := L.map (·.2)
structure Ok (L : List Rg) : Prop where
  nd : (keysR L).Nodup
  rng : ∀ p ∈ L, 0 ≤ p.1 ∧ p.1 ≤ 63
  v64 : ∀ p ∈ L, -9223372036854775808 ≤ p.2 ∧ p.2 ≤ 9223372036854775807
def noteE (L : List Rg) (x : Int) : Int := if x < 0 ∨ 63 < x then 8 else if hasR L x = true then 12 else 0
def noteL (L : List Rg) (x d : Int) : List Rg := if x < 0 ∨ 63 < x then L else if hasR L x = true then L else L ++ [(x, d)]
def whoR (L : List Rg) : Nat := Nodes.ofL (keysR L)
theorem hasR_iff {L : List Rg} {x : Int} : hasR L x = true ↔ x ∈ keysR L := by
  unfold hasR keysR
  rw [List.any_eq_true, List.mem_map]
  constructor
  · rintro ⟨p, hp, h⟩; exact ⟨p, hp, of_decide_eq_true h⟩
  · rintro ⟨p, hp, h⟩; exact ⟨p, hp, decide_eq_true h⟩
theorem hasR_no {L : List Rg} {x : Int} : hasR L x = false ↔ x ∉ keysR L := by
  rw [← hasR_iff, Bool.not_eq_true]
theorem hasR_snoc (L : List Rg) (p : Rg) (y : Int) : hasR (L ++ [p]) y = (hasR L y || decide (p.1 = y)) := by simp [hasR]
theorem keysR_snoc (L : List Rg) (p : Rg) : keysR (L ++ [p]) = keysR L ++ [p.1] := by simp [keysR]
theorem valsR_snoc (L : List Rg) (p : Rg) : valsR (L ++ [p]) = valsR L ++ [p.2] := by simp [valsR]
theorem valsR_len (L : List Rg) : (valsR L).length = L.length := List.length_map _
theorem keysR_len (L : List Rg) : (keysR L).length = L.length := List.length_map _
theorem getR_no {L : List Rg} {x : Int} (h : hasR L x = false) : getR L x = 0 := by
  unfold getR
  rw [List.find?_eq_none.2 (fun p hp hd => by
    have := List.any_eq_false.1 h p hp
    exact this hd)]
  rfl
theorem getR_snoc (L : List Rg) (p : Rg) (y : Int) : getR (L ++ [p]) y = if hasR L y = true then getR L y else if p.1 = y then p.2 else 0 := by
  unfold getR
  rw [List.find?_append]
  by_cases h : hasR L y = true
  · rw [if_pos h]
    obtain ⟨q, hq, hd⟩ := List.any_eq_true.1 h
    cases hf : L.find? (fun p => decide (p.1 = y)) with
    | none => exact absurd hd (List.find?_eq_none.1 hf q hq)
    | some u => rfl
  · rw [if_neg h]
    have h' : hasR L y = false := by simpa using h
    rw [List.find?_eq_none.2 (fun p hp hd => List.any_eq_false.1 h' p hp hd)]
    by_cases he : p.1 = y
    · simp [he]
    · simp [he]
theorem getR_mem {L : List Rg} {x : Int} (h : hasR L x = true) : (x, getR L x) ∈ L := by
  obtain ⟨q, hq, hd⟩ := List.any_eq_true.1 h
  unfold getR
  cases hf : L.find? (fun p => decide (p.1 = x)) with
  | none => exact absurd hd (List.find?_eq_none.1 hf q hq)
  | some u =>
    have h1 := List.mem_of_find?_eq_some hf
    have h3 := List.find?_some hf
    have h2 : u.1 = x := by simpa using h3
    simp only [Option.map_some, Option.getD_some]
    rw [← h2]
    exact h1
/-- Each key once: a reading is the one that is got. -/
theorem getR_of_mem : ∀ {L : List Rg} {p : Rg}, (keysR L).Nodup → p ∈ L → getR L p.1 = p.2
  | q :: L, p, h, hp => by
    have hk : keysR (q :: L) = q.1 :: keysR L := rfl
    rw [hk, List.nodup_cons] at h
    rcases List.mem_cons.1 hp with rfl | hp
    · simp [getR]
    · have hne : ¬ q.1 = p.1 := fun e => h.1 (by rw [e]; exact List.mem_map.2 ⟨p, hp, rfl⟩)
      have := getR_of_mem h.2 hp
      unfold getR at this ⊢
      rw [List.find?_cons_of_neg (by simpa using hne)]
      exact this
theorem Ok.nil : Ok [] := ⟨List.nodup_nil, fun p h => absurd h (by simp), fun p h => absurd h (by simp)⟩
theorem Ok.note {L : List Rg} (h : Ok L) {x d : Int} (hd : -9223372036854775808 ≤ d ∧ d ≤ 9223372036854775807) : Ok (noteL L x d) := by
  unfold noteL
  split
  · exact h
  · split
    · exact h
    · rename_i h1 h2
      have hn : x ∉ keysR L := fun e => h2 (hasR_iff.2 e)
      refine ⟨?_, ?_, ?_⟩
      · rw [keysR_snoc, List.nodup_append]
        refine ⟨h.nd, by simp, fun a ha c hc e => ?_⟩
        simp only [List.mem_singleton] at hc
        exact hn (by rw [← hc, ← e]; exact ha)
      · intro p hp
        rcases List.mem_append.1 hp with hp | hp
        · exact h.rng p hp
        · simp only [List.mem_singleton] at hp
          subst hp
          show 0 ≤ x ∧ x ≤ 63
          omega
      · intro p hp
        rcases List.mem_append.1 hp with hp | hp
        · exact h.v64 p hp
        · simp only [List.mem_singleton] at hp
          subst hp
          exact hd
theorem nodup_lenI : ∀ (n : Nat) {l : List Int}, l.Nodup → (∀ x ∈ l, 0 ≤ x ∧ x < (n : Int)) → l.length ≤ n
  | 0, l, _, h => by
    cases l with
    | nil => simp
    | cons a l => have := h a (by simp); omega
  | n + 1, l, hn, h => by
    have h1 := nodup_lenI n (l := l.filter (fun x => decide (x ≠ (n : Int)))) (hn.filter _) (fun x hx => by
      rw [List.mem_filter] at hx
      have := h x hx.1
      have h2 := of_decide_eq_true hx.2
      omega)
    by_cases hm : (n : Int) ∈ l
    · have h2 : l.length = (l.filter (fun x => decide (x ≠ (n : Int)))).length + 1 := by
        have he : l.filter (fun x => decide (x ≠ (n : Int))) = l.erase (n : Int) := by
          rw [hn.erase_eq_filter]
          apply List.filter_congr
          intro x _
          by_cases hx : x = (n : Int) <;> simp [hx]
        rw [he, List.length_erase_of_mem hm]
        have := List.length_pos_of_mem hm
        omega
      omega
    · have h2 : l.filter (fun x => decide (x ≠ (n : Int))) = l := List.filter_eq_self.2 (fun x hx => decide_eq_true (fun e => hm (e ▸ hx)))
      rw [h2] at h1
      omega
theorem Ok.len {L : List Rg} (h : Ok L) : L.length ≤ 64 := by
  rw [← keysR_len]
  exact nodup_lenI 64 h.nd (fun x hx => by
    obtain ⟨p, hp, rfl⟩ := List.mem_map.1 hx
    have := h.rng p hp
    omega)
theorem Ok.get64 {L : List Rg} (h : Ok L) (x : Int) : -9223372036854775808 ≤ getR L x ∧ getR L x ≤ 9223372036854775807 := by
  cases hh : hasR L x with
  | false => rw [getR_no hh]; omega
  | true => exact h.v64 _ (getR_mem hh)
/-- What was met so far of those that are gone over: all but what is left. -/
def metR (L : List Rg) (left : Int → Bool) : List Rg := L.filter (fun p => !left p.1)
theorem met_start {L : List Rg} {left : Int → Bool} (h : ∀ x, left x = hasR L x) : metR L left = [] := by
  unfold metR
  rw [List.filter_eq_nil_iff]
  intro p hp
  rw [h p.1, hasR_iff.2 (List.mem_map.2 ⟨p, hp, rfl⟩)]
  simp
theorem met_end {L : List Rg} {left : Int → Bool} (h : ∀ x, left x = false) : metR L left = L := by
  unfold metR
  rw [List.filter_eq_self]
  intro p _
  rw [h]
  rfl
theorem met_step {L : List Rg} (hn : (keysR L).Nodup) {left left' : Int → Bool} {x c : Int} (hx : (x, c) ∈ L) (hl : left x = true) (hl' : ∀ z, left' z = (left z && !decide (z = x))) :
    (metR L left').Perm (metR L left ++ [(x, c)]) := by
  obtain ⟨l1, l2, rfl⟩ := List.append_of_mem hx
  have hk : keysR (l1 ++ (x, c) :: l2) = keysR l1 ++ x :: keysR l2 := by simp [keysR]
  rw [hk] at hn
  obtain ⟨n1, n2, n3⟩ := List.nodup_append.1 hn
  have h1 : ∀ p ∈ l1, p.1 ≠ x := fun p hp e => n3 p.1 (List.mem_map.2 ⟨p, hp, rfl⟩) x (by simp) e
  have h2 : ∀ p ∈ l2, p.1 ≠ x := fun p hp e => (List.nodup_cons.1 n2).1 (by rw [← e]; exact List.mem_map.2 ⟨p, hp, rfl⟩)
  have f1 : l1.filter (fun p => !left' p.1) = l1.filter (fun p => !left p.1) := List.filter_congr (fun p hp => by rw [hl' p.1]; simp [h1 p hp])
  have f2 : l2.filter (fun p => !left' p.1) = l2.filter (fun p => !left p.1) := List.filter_congr (fun p hp => by rw [hl' p.1]; simp [h2 p hp])
  have e1 : left' x = false := by rw [hl' x]; simp
  unfold metR
  rw [List.filter_append, List.filter_append, List.filter_cons, List.filter_cons, f1, f2]
  simp only [e1, hl, Bool.not_true, Bool.not_false, if_true, Bool.false_eq_true, if_false]
  rw [List.append_assoc]
  exact List.Perm.append_left _ (List.perm_append_comm (l₁ := [(x, c)]))
theorem who_perm {A B : List Rg} (h : A.Perm B) : whoR A = whoR B := by
  unfold whoR Nodes.ofL
  refine Nodes.setP_congr (fun j _ => ?_)
  rw [decide_eq_decide]
  exact (h.map _).mem_iff
theorem who_snoc (L : List Rg) (p : Rg) : whoR (L ++ [p]) = whoR L ||| Nodes.bitN p.1 := by
  unfold whoR
  rw [keysR_snoc, ← Nodes.with_zero, Nodes.with_snoc, Nodes.with_zero]
theorem who_lt (L : List Rg) : whoR L < 18446744073709551616 := Nodes.setP_lt _
theorem who_nil : whoR [] = 0 := by
  unfold whoR
  have := Nodes.with_zero (keysR [])
  rw [← this]
  exact Nodes.with_nil (by omega)
theorem who_step {L : List Rg} (hn : (keysR L).Nodup) {left left' : Int → Bool} {x c : Int} (hx : (x, c) ∈ L) (hl : left x = true) (hl' : ∀ z, left' z = (left z && !decide (z = x))) :
    whoR (metR L left') = whoR (metR L left) ||| Nodes.bitN x := by
  rw [who_perm (met_step hn hx hl hl'), who_snoc]
theorem vals_step {L : List Rg} (hn : (keysR L).Nodup) {left left' : Int → Bool} {x c : Int} {A : List Int} (hA : A.Perm (valsR (metR L left))) (hx : (x, c) ∈ L) (hl : left x = true) (hl' : ∀ z, left' z = (left z && !decide (z = x))) :
    (A ++ [c]).Perm (valsR (metR L left')) := by
  have h := (met_step hn hx hl hl').map (fun p : Rg => p.2)
  rw [List.map_append] at h
  exact (hA.append_right [c]).trans h.symm
theorem mid_perm {A B : List Int} (h : A.Perm B) (f : Int) : Trm.midV f A = Trm.midV f B ∧ Trm.midB A = Trm.midB B := by
  have hl := h.length_eq
  unfold Trm.midV Trm.midB Trm.trm
  rw [hl, Trm.srt_of_perm h]
  exact ⟨rfl, rfl⟩
/-- The document's answers of a list of readings: its middle. -/
def closeV (f : Int) (L : List Rg) : Int := Trm.midV f (valsR L)
def closeB (L : List Rg) : Bool := decide (0 < L.length)
theorem close_is (f : Int) (L : List Rg) {A : List Int} (h : A.Perm (valsR L)) : Trm.midV f A = closeV f L ∧ Trm.midB A = closeB L := by
  obtain ⟨h1, h2⟩ := mid_perm h f
  refine ⟨h1, ?_⟩
  rw [h2]
  unfold Trm.midB closeB
  rw [valsR_len]
theorem close_perm (f : Int) {L M : List Rg} (h : L.Perm M) : closeV f L = closeV f M ∧ closeB L = closeB M := by
  refine ⟨(mid_perm (h.map _) f).1, ?_⟩
  unfold closeB
  rw [h.length_eq]
end Go.Proofs.Ytcadmepfnafpmaa.Rnd
