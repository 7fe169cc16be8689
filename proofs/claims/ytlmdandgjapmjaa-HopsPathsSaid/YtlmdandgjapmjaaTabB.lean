/- Maps, for every program, further: an entry put, one taken out, all taken out, how many there are. -/
import Derived.Test.YtlmdandgjapmjaaTabA
namespace Go.Proofs.Ytlmdandgjapmjaa.Tb
open Go.ChangeShapes Go.WideShapes Go.MapKept Go.ChangeMaps Go.RowKit
open Go.WideElems (Fit rd)
open Go.WideMaps (KeyLaw)
set_option linter.unusedVariables false
theorem nodup_len {α : Type} [DecidableEq α] : ∀ {l m : List α}, l.Nodup → (∀ x ∈ l, x ∈ m) → l.length ≤ m.length
  | [], m, _, _ => Nat.zero_le _
  | a :: l, m, hn, hs => by
    have ha := hs a (by simp)
    have h := nodup_len (l := l) (m := m.erase a) (List.nodup_cons.1 hn).2 (fun x hx => by
      have hne : x ≠ a := fun e => (List.nodup_cons.1 hn).1 (e ▸ hx)
      exact (List.mem_erase_of_ne hne).2 (hs x (by simp [hx])))
    have h2 := List.length_erase_of_mem ha
    have h3 := List.length_pos_of_mem ha
    rw [List.length_cons]
    omega
section
variable {κ : Type} {P : Program} {k : TypeId} {kv : κ → Value} {w : World} {b n : Nat} {g : κ → Option Value}
def del [DecidableEq κ] (g : κ → Option Value) (x : κ) : κ → Option Value := fun y => if y = x then none else g y
/-- 'len(m)', of a map that has just these keys. -/
theorem Is.len [DecidableEq κ] {t e : TypeId} (h : Is P k kv w b n g) (hinj : ∀ {x y : κ}, kv x = kv y → x = y) (ht : P.underlying t = some (.map k e)) (ks : List κ) (hk : ks.length = n) (hnd : ks.Nodup) (hg : ∀ x ∈ ks, ∃ v, g x = some v) (ty : TypeId) :
    (Builtin.len_ #[t] ty #[.map (some b)]).run P w = .ok (.int .i64 (n : Int)) w := by
  obtain ⟨es, clock, hb, F, hs, h1, h2⟩ := h
  have hsz : es.size = n := by
    refine Nat.le_antisymm hs ?_
    rw [← hk]
    -- each key has an entry
    have : ∀ l : List κ, l.Nodup → (∀ x ∈ l, ∃ e ∈ es.toList, e.key = kv x) → l.length ≤ es.toList.length := fun l hl he => by
      have hh : ∀ (l : List κ) (m : List MapEntry), l.Nodup → (∀ x ∈ l, ∃ e ∈ m, e.key = kv x) → l.length ≤ m.length := by
        intro l
        induction l with
        | nil => intro m _ _; exact Nat.zero_le _
        | cons a l ih =>
          intro m hn hm
          obtain ⟨e, he, hek⟩ := hm a (by simp)
          obtain ⟨m1, m2, rfl⟩ := List.append_of_mem he
          have := ih (m1 ++ m2) (List.nodup_cons.1 hn).2 (fun x hx => by
            obtain ⟨e', he', hek'⟩ := hm x (by simp [hx])
            refine ⟨e', ?_, hek'⟩
            rcases List.mem_append.1 he' with h | h
            · exact List.mem_append.2 (.inl h)
            · rcases List.mem_cons.1 h with rfl | h
              · exact absurd (hinj (hek'.symm.trans hek)) (fun e => (List.nodup_cons.1 hn).1 (e ▸ hx))
              · exact List.mem_append.2 (.inr h))
          simp only [List.length_append, List.length_cons] at this ⊢
          omega
      exact hh l es.toList hl he
    have := this ks hnd (fun x hx => by
      obtain ⟨v, hv⟩ := hg x hx
      exact h2 x v hv)
    simpa using this
  rw [← hsz]
  simp [Builtin.len_, run_underlying ht, MapKept.run_getObj_map hb, goInt, Result.andThen]
/-- 'm[k] = v', of a key that was not there. -/
theorem Is.put [DecidableEq κ] {t e : TypeId} (h : Is P k kv w b n g) (K : KeyLaw P k) (hinj : ∀ {x y : κ}, kv x = kv y → x = y) (ht : P.underlying t = some (.map k e)) (hn : n < maxLen) {x : κ} {kl : Lit} (hkey : keyOf P k (kv x) = some kl) (hx : g x = none) (v : Value) :
    ∃ w1, (Instr.mapUpdate t (.map (some b)) (kv x) v).run P w = .ok () w1 ∧ w.grownBy w1 (some b) ∧ Is P k kv w1 b (n + 1) (upd g x v) := by
  obtain ⟨es, clock, hb, F, hs, h1, h2, hf⟩ := found K hinj h hkey w
  have hG : Good P k kv n g es clock := ⟨F, hs, h1, h2⟩
  rcases hf with ⟨f1, f2⟩ | ⟨j, e0, f1, f2, f3, f4⟩
  · refine ⟨setBlock w b (.map (es.push ⟨kv x, v, clock⟩) (clock + 1)), ?_, only_block hb, (hG.push hinj hn hkey hx v).is (heap_setBlock_same hb _)⟩
    simp [Instr.mapUpdate, run_underlying ht, MapKept.run_getObj_map hb, K.check w false hkey, f1, MapKept.run_setObj_map _ hb, Result.andThen, setBlock]
  · rw [hx] at f4; cases f4
theorem Good.pop [DecidableEq κ] {es : Array MapEntry} {clock j : Nat} {e0 : MapEntry} (h : Good P k kv n g es clock) (hinj : ∀ {x y : κ}, kv x = kv y → x = y) {x : κ} (hj : es.toList[j]? = some e0) (hk : e0.key = kv x) :
    Good P k kv (n - 1) (del g x) (es.eraseIdxIfInBounds j) clock := by
  obtain ⟨F, hs, h1, h2⟩ := h
  have hjl : j < es.size := by simpa using (List.getElem?_eq_some_iff.1 hj).1
  have hlist : (es.eraseIdxIfInBounds j).toList = es.toList.eraseIdx j := by
    unfold Array.eraseIdxIfInBounds
    rw [dif_pos hjl, Array.toList_eraseIdx]
  have hsz : (es.eraseIdxIfInBounds j).size = es.size - 1 := by
    have := congrArg List.length hlist
    rw [List.length_eraseIdx, if_pos (by simpa using hjl), Array.length_toList, Array.length_toList] at this
    exact this
  have hsub : ∀ e ∈ (es.eraseIdxIfInBounds j).toList, e ∈ es.toList ∧ e.key ≠ kv x := fun e he => by
    rw [hlist] at he
    obtain ⟨i, hi, hne, hie⟩ := List.mem_eraseIdx_iff_getElem.1 he
    refine ⟨by rw [← hie]; exact List.getElem_mem _, fun e1 => hne ?_⟩
    have hp := List.pairwise_iff_getElem.1 F.stamped.2.2
    have hj' : es.toList[j]'(by simpa using hjl) = e0 := by
      rw [List.getElem?_eq_getElem (by simpa using hjl)] at hj
      exact Option.some.inj hj
    rcases Nat.lt_trichotomy i j with hlt | heq | hlt
    · exfalso
      refine hp i j (by simpa using hi) (by simpa using hjl) hlt ?_
      rw [List.getElem_map, List.getElem_map, hj', hk, hie, e1]
    · exact heq
    · exfalso
      refine hp j i (by simpa using hjl) (by simpa using hi) hlt ?_
      rw [List.getElem_map, List.getElem_map, hj', hk, hie, e1]
  refine ⟨⟨by rw [hsz]; have := F.size; omega, stamped_erase F.stamped j, fun e he => F.reads e (hsub e he).1⟩, by omega, ?_, ?_⟩
  · intro e he
    obtain ⟨hm, hne⟩ := hsub e he
    obtain ⟨y, hy, hg⟩ := h1 e hm
    have : y ≠ x := fun e' => hne (by rw [hy, e'])
    exact ⟨y, hy, by simp [del, this, hg]⟩
  · intro y u hu
    by_cases hy : y = x
    · simp [del, hy] at hu
    · simp only [del, hy, if_false] at hu
      obtain ⟨e, he, hke⟩ := h2 y u hu
      obtain ⟨i, hi, rfl⟩ := List.getElem_of_mem he
      refine ⟨es.toList[i], ?_, hke⟩
      rw [hlist]
      refine List.mem_eraseIdx_iff_getElem.2 ⟨i, hi, fun e' => ?_, rfl⟩
      subst e'
      rw [List.getElem?_eq_getElem hi] at hj
      have := Option.some.inj hj
      rw [this] at hke
      exact hy (hinj (hke.symm.trans hk))
/-- 'delete(m, k)', of a key that was there. -/
theorem Is.drop [DecidableEq κ] {t e : TypeId} (h : Is P k kv w b n g) (K : KeyLaw P k) (hinj : ∀ {x y : κ}, kv x = kv y → x = y) (ht : P.underlying t = some (.map k e)) {x : κ} {kl : Lit} (hkey : keyOf P k (kv x) = some kl) {v : Value} (hx : g x = some v) (ty : TypeId) :
    ∃ w1, (Builtin.delete_ #[t, k] ty #[.map (some b), kv x]).run P w = .ok (.tuple #[]) w1 ∧ w.grownBy w1 (some b) ∧ Is P k kv w1 b (n - 1) (del g x) := by
  obtain ⟨es, clock, hb, F, hs, h1, h2, hf⟩ := found K hinj h hkey w
  have hG : Good P k kv n g es clock := ⟨F, hs, h1, h2⟩
  rcases hf with ⟨f1, f2⟩ | ⟨j, e0, f1, f2, f3, f4⟩
  · rw [hx] at f2; cases f2
  · refine ⟨setBlock w b (.map (es.eraseIdxIfInBounds j) clock), ?_, only_block hb, (hG.pop hinj f2 f3).is (heap_setBlock_same hb _)⟩
    simp [Builtin.delete_, run_underlying ht, MapKept.run_getObj_map hb, K.check w _ hkey, f1, MapKept.run_setObj_map _ hb, Result.andThen, setBlock]
/-- 'clear(m)'. -/
theorem Is.clear {t e : TypeId} (h : Is P k kv w b n g) (ht : P.underlying t = some (.map k e)) (ty : TypeId) :
    ∃ w1, (Builtin.clear_ #[t] ty #[.map (some b)]).run P w = .ok (.tuple #[]) w1 ∧ w.grownBy w1 (some b) ∧ Is P k kv w1 b 0 (fun _ => none) := by
  obtain ⟨es, clock, hb, F, hs, h1, h2⟩ := h
  refine ⟨setBlock w b (.map #[] clock), ?_, only_block hb, ⟨#[], clock, heap_setBlock_same hb _, ⟨by simp, ⟨by simp, by simp, by simp⟩, by simp⟩, by simp, by simp, by simp⟩⟩
  simp [Builtin.clear_, run_underlying ht, MapKept.run_getObj_map hb, MapKept.run_setObj_map _ hb, Result.andThen, setBlock]
theorem Is.mono {n' : Nat} (h : Is P k kv w b n g) (hn : n ≤ n') : Is P k kv w b n' g := by
  obtain ⟨es, clock, h0, F, hs, r⟩ := h
  exact ⟨es, clock, h0, F, Nat.le_trans hs hn, r⟩
theorem Is.congr {g' : κ → Option Value} (h : Is P k kv w b n g) (hg : ∀ x, g x = g' x) : Is P k kv w b n g' := by
  have : g = g' := funext hg
  rw [← this]; exact h
end
end Go.Proofs.Ytlmdandgjapmjaa.Tb
