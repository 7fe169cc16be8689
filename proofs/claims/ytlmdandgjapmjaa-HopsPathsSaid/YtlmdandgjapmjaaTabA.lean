/- Maps, for every program: a block is a map from one's own keys to values; a look-up; an entry made and stored into. -/
import Derived.Test.YtlmdandgjapmjaaRowX
import Derived.WideKeyEntry
import Derived.DeepKeys4
import Derived.Maps.Own
import Derived.Below
namespace Go.Proofs.Ytlmdandgjapmjaa.Tb
open Go.ChangeShapes Go.WideShapes Go.MapKept Go.ChangeMaps Go.RowKit
open Go.WideElems (Fit rd)
open Go.WideMaps (KeyLaw)
set_option linter.unusedVariables false
/-- Of the values nothing is read. -/
def R0 : Value → Option (DataW Unit × List MemPlace) := fun _ => some (.lit (.bool true), [])
section
variable {κ : Type}
/-- A block is a map of at most n entries. -/
def Is (P : Program) (k : TypeId) (kv : κ → Value) (w : World) (b n : Nat) (g : κ → Option Value) : Prop :=
  ∃ es clock, w.heap[b]? = some (.map es clock) ∧ Fit P k R0 es clock ∧ es.size ≤ n ∧ (∀ e ∈ es.toList, ∃ x, e.key = kv x ∧ g x = some e.val) ∧ ∀ x v, g x = some v → ∃ e ∈ es.toList, e.key = kv x
def upd [DecidableEq κ] (g : κ → Option Value) (x : κ) (v : Value) : κ → Option Value := fun y => if y = x then some v else g y
variable {P : Program} {k : TypeId} {kv : κ → Value} {w : World} {b n : Nat} {g : κ → Option Value}
theorem Is.made (w : World) : Is P k kv (w.alloc (.map #[] 0)) w.heap.size 0 (fun _ => none) :=
  ⟨#[], 0, (MapKept.heap_alloc w _).1, ⟨by simp, ⟨by simp, by simp, by simp⟩, by simp⟩, by simp, by simp, by simp⟩
theorem Is.of_block {w' : World} (h : Is P k kv w b n g) (hb : w'.heap[b]? = w.heap[b]?) : Is P k kv w' b n g := by
  obtain ⟨es, clock, h0, r⟩ := h
  exact ⟨es, clock, hb.trans h0, r⟩
theorem Is.lt (h : Is P k kv w b n g) : b < w.heap.size := by
  obtain ⟨es, clock, hb, _⟩ := h
  exact (Array.getElem?_eq_some_iff.1 hb).1
theorem Is.below {w' : World} (h : Is P k kv w b n g) (hB : Below w.heap.size w w') : Is P k kv w' b n g := h.of_block (hB.block b h.lt)
theorem Is.kept {w' : World} {row : Option Nat} (h : Is P k kv w b n g) (hg : w.grownBy w' row) (hne : some b ≠ row) : Is P k kv w' b n g := h.of_block (hg.block b h.lt hne)
/-- What an entry's block is found to be. -/
theorem found (K : KeyLaw P k) (hinj : ∀ {x y : κ}, kv x = kv y → x = y) (h : Is P k kv w b n g) {x : κ} {kl : Lit} (hkey : keyOf P k (kv x) = some kl) (W : World) :
    ∃ es clock, w.heap[b]? = some (.map es clock) ∧ Fit P k R0 es clock ∧ es.size ≤ n ∧ (∀ e ∈ es.toList, ∃ x, e.key = kv x ∧ g x = some e.val) ∧ (∀ x v, g x = some v → ∃ e ∈ es.toList, e.key = kv x) ∧
      (((Instr.findKey k (kv x) es.toList).run P W = .ok none W ∧ g x = none) ∨ ∃ j e0, (Instr.findKey k (kv x) es.toList).run P W = .ok (some (j, e0.val)) W ∧ es.toList[j]? = some e0 ∧ e0.key = kv x ∧ g x = some e0.val) := by
  obtain ⟨es, clock, hb, F, hs, h1, h2⟩ := h
  refine ⟨es, clock, hb, F, hs, h1, h2, ?_⟩
  rcases K.find W hkey es.toList F.keys with ⟨f1, f2⟩ | ⟨j, e0, f1, f2, f3⟩
  · refine .inl ⟨f1, ?_⟩
    cases hg : g x with
    | none => rfl
    | some v =>
      obtain ⟨e, he, hk⟩ := h2 x v hg
      exact absurd hk (f2 e he)
  · refine .inr ⟨j, e0, f1, f2, f3, ?_⟩
    obtain ⟨y, hy, hg⟩ := h1 e0 (List.mem_of_getElem? f2)
    have : x = y := hinj (f3.symm.trans hy)
    rw [this]
    exact hg
/-- 'm[k]'. -/
theorem Is.look {t e : TypeId} (h : Is P k kv w b n g) (K : KeyLaw P k) (hinj : ∀ {x y : κ}, kv x = kv y → x = y) (ht : P.underlying t = some (.map k e)) {z : Value} (hz : ∀ u : World, (zeroValue e).run P u = .ok z u) {x : κ} {kl : Lit} (hkey : keyOf P k (kv x) = some kl) (c : Bool) :
    (Instr.lookup t (.map (some b)) (kv x) c).run P w = .ok (if c then .tuple #[(g x).getD z, .bool (g x).isSome] else (g x).getD z) w := by
  obtain ⟨es, clock, hb, F, hs, h1, h2, hf⟩ := found K hinj h hkey w
  rcases hf with ⟨f1, f2⟩ | ⟨j, e0, f1, f2, f3, f4⟩
  · simp [Instr.lookup, run_underlying ht, MapKept.run_getObj_map hb, K.check w _ hkey, f1, hz, Result.andThen, f2]
  · simp [Instr.lookup, run_underlying ht, MapKept.run_getObj_map hb, K.check w _ hkey, f1, Result.andThen, f4]
theorem only_block {w : World} {b : Nat} {o : Obj} {es : Array MapEntry} {clock : Nat} (hb : w.heap[b]? = some (.map es clock)) : w.grownBy (setBlock w b o) (some b) :=
  ⟨rfl, rfl, rfl, by simp [setBlock], fun i _ hi => heap_setBlock_other hb _ (fun e => hi (by rw [e]))⟩
/-- What is said of a map's entries. -/
def Good (P : Program) (k : TypeId) (kv : κ → Value) (n : Nat) (g : κ → Option Value) (es : Array MapEntry) (clock : Nat) : Prop :=
  Fit P k R0 es clock ∧ es.size ≤ n ∧ (∀ e ∈ es.toList, ∃ x, e.key = kv x ∧ g x = some e.val) ∧ ∀ x v, g x = some v → ∃ e ∈ es.toList, e.key = kv x
theorem Good.is {es : Array MapEntry} {clock : Nat} (h : Good P k kv n g es clock) (hb : w.heap[b]? = some (.map es clock)) : Is P k kv w b n g := ⟨es, clock, hb, h.1, h.2.1, h.2.2.1, h.2.2.2⟩
theorem Good.push [DecidableEq κ] {es : Array MapEntry} {clock : Nat} (h : Good P k kv n g es clock) (hinj : ∀ {x y : κ}, kv x = kv y → x = y) (hn : n < maxLen) {x : κ} {kl : Lit} (hkey : keyOf P k (kv x) = some kl) (hx : g x = none) (v : Value) :
    Good P k kv (n + 1) (upd g x v) (es.push ⟨kv x, v, clock⟩) (clock + 1) := by
  obtain ⟨F, hs, h1, h2⟩ := h
  obtain ⟨s1, s2, s3⟩ := F.stamped
  refine ⟨⟨by simp; omega, ⟨?_, ?_, ?_⟩, ?_⟩, by simp; omega, ?_, ?_⟩
  · intro e he
    rw [Array.toList_push, List.mem_append, List.mem_singleton] at he
    rcases he with he | rfl
    · have := s1 e he; omega
    · simp
  · rw [Array.toList_push, List.map_append, List.nodup_append]
    refine ⟨s2, by simp, fun a ha c hc e1 => ?_⟩
    simp only [List.map_cons, List.map_nil, List.mem_singleton] at hc
    obtain ⟨y, hy, rfl⟩ := List.mem_map.1 ha
    have := s1 y hy
    omega
  · rw [Array.toList_push, List.map_append, List.nodup_append]
    refine ⟨s3, by simp, fun a ha c hc e1 => ?_⟩
    simp only [List.map_cons, List.map_nil, List.mem_singleton] at hc
    obtain ⟨y, hy, rfl⟩ := List.mem_map.1 ha
    obtain ⟨u, hu, hg⟩ := h1 y hy
    have : u = x := hinj (by rw [← hu, e1, hc])
    rw [this, hx] at hg
    cases hg
  · intro e he
    rw [Array.toList_push, List.mem_append, List.mem_singleton] at he
    rcases he with he | rfl
    · exact F.reads e he
    · exact ⟨_, Go.WideElems.rd_mk hkey rfl⟩
  · intro e he
    rw [Array.toList_push, List.mem_append, List.mem_singleton] at he
    rcases he with he | rfl
    · obtain ⟨y, hy, hg⟩ := h1 e he
      refine ⟨y, hy, ?_⟩
      have : y ≠ x := fun e' => by rw [e', hx] at hg; cases hg
      simp [upd, this, hg]
    · exact ⟨x, rfl, by simp [upd]⟩
  · intro y u hu
    by_cases hy : y = x
    · exact ⟨_, by rw [Array.toList_push, List.mem_append, List.mem_singleton]; exact .inr rfl, by rw [hy]⟩
    · simp only [upd, hy, if_false] at hu
      obtain ⟨e, he, hk⟩ := h2 y u hu
      exact ⟨e, by rw [Array.toList_push, List.mem_append]; exact .inl he, hk⟩
theorem Good.set [DecidableEq κ] {es es' : Array MapEntry} {clock j : Nat} {e0 : MapEntry} (h : Good P k kv n g es clock) (hinj : ∀ {x y : κ}, kv x = kv y → x = y) {x : κ} (hj : es.toList[j]? = some e0) (hk : e0.key = kv x) (v : Value)
    (hes : es'.toList = es.toList.set j { e0 with val := v }) : Good P k kv (n + 1) (upd g x v) es' clock := by
  obtain ⟨F, hs, h1, h2⟩ := h
  obtain ⟨s1, s2, s3⟩ := F.stamped
  have hjl : j < es.toList.length := (List.getElem?_eq_some_iff.1 hj).1
  have hsz : es'.size = es.size := by
    have := congrArg List.length hes
    simpa using this
  have hb : es'.toList.map (·.born) = es.toList.map (·.born) := by
    rw [hes, List.map_set]
    exact Go.WideElems.set_self _ _ _ (by rw [List.getElem?_map, hj]; rfl)
  have hkk : es'.toList.map (·.key) = es.toList.map (·.key) := by
    rw [hes, List.map_set]
    exact Go.WideElems.set_self _ _ _ (by rw [List.getElem?_map, hj]; rfl)
  have split : ∀ e ∈ es'.toList, e = { e0 with val := v } ∨ (e ∈ es.toList ∧ e.key ≠ kv x) := fun e he => by
    rw [hes] at he
    obtain ⟨i, hi, rfl⟩ := List.getElem_of_mem he
    rw [List.length_set] at hi
    rw [List.getElem_set]
    by_cases hij : j = i
    · subst hij; rw [if_pos rfl]; exact .inl rfl
    · rw [if_neg hij]
      refine .inr ⟨List.getElem_mem _, fun e1 => hij ?_⟩
      have hj' : es.toList[j]'hjl = e0 := by
        rw [List.getElem?_eq_getElem hjl] at hj
        exact Option.some.inj hj
      have hp := List.pairwise_iff_getElem.1 s3
      rcases Nat.lt_trichotomy i j with hlt | heq | hlt
      · exfalso
        refine hp i j (by simpa using hi) (by simpa using hjl) hlt ?_
        rw [List.getElem_map, List.getElem_map, hj', e1, hk]
      · exact heq.symm
      · exfalso
        refine hp j i (by simpa using hjl) (by simpa using hi) hlt ?_
        rw [List.getElem_map, List.getElem_map, hj', e1, hk]
  have hmem0 : e0 ∈ es.toList := List.mem_of_getElem? hj
  refine ⟨⟨by rw [hsz]; exact F.size, ⟨?_, by rw [hb]; exact s2, by rw [hkk]; exact s3⟩, ?_⟩, by omega, ?_, ?_⟩
  · intro e he
    rcases split e he with rfl | ⟨h, _⟩
    · exact s1 e0 hmem0
    · exact s1 e h
  · intro e he
    rcases split e he with rfl | ⟨h, _⟩
    · obtain ⟨y, hy⟩ := F.reads e0 hmem0
      have := Go.WideElems.rd_key hy
      exact ⟨_, Go.WideElems.rd_mk (val := v) (born := e0.born) this rfl⟩
    · exact F.reads e h
  · intro e he
    rcases split e he with rfl | ⟨h, hne⟩
    · exact ⟨x, hk, by simp [upd]⟩
    · obtain ⟨y, hy, hg⟩ := h1 e h
      refine ⟨y, hy, ?_⟩
      have : y ≠ x := fun e' => hne (by rw [hy, e'])
      simp [upd, this, hg]
  · intro y u hu
    by_cases hy : y = x
    · refine ⟨{ e0 with val := v }, ?_, by rw [hy]; exact hk⟩
      rw [hes]
      exact List.mem_of_getElem? (i := j) (by rw [List.getElem?_set_self hjl])
    · simp only [upd, hy, if_false] at hu
      obtain ⟨e, he, hke⟩ := h2 y u hu
      obtain ⟨i, hi, rfl⟩ := List.getElem_of_mem he
      have hij : j ≠ i := fun e' => by
        subst e'
        rw [List.getElem?_eq_getElem hi] at hj
        have := Option.some.inj hj
        rw [this] at hke
        exact hy (hinj (hke.symm.trans hk))
      refine ⟨es.toList[i], ?_, hke⟩
      rw [hes]
      exact List.mem_of_getElem? (i := i) (by rw [List.getElem?_set_ne hij, List.getElem?_eq_getElem hi])
/-- 'm[k] op= v', its two halves. -/
theorem Is.entry [DecidableEq κ] {t e : TypeId} (h : Is P k kv w b n g) (K : KeyLaw P k) (hinj : ∀ {x y : κ}, kv x = kv y → x = y) (ht : P.underlying t = some (.map k e)) (hn : n < maxLen) {z : Value} (hz : ∀ u : World, (zeroValue e).run P u = .ok z u) {x : κ} {kl : Lit} (hkey : keyOf P k (kv x) = some kl) :
    ∃ (st : Nat) (w1 : World), (Instr.mapEntry t (.map (some b)) (kv x)).run P w = .ok (.tuple #[(g x).getD z, goInt st]) w1 ∧ w.grownBy w1 (some b) ∧ Is P k kv w1 b (n + 1) (upd g x ((g x).getD z)) ∧
      ∀ (w2 : World) (val : Value), w2.heap[b]? = w1.heap[b]? → ∃ w3, (Instr.entryStore t (.map (some b)) (goInt st) val).run P w2 = .ok () w3 ∧ w2.grownBy w3 (some b) ∧ Is P k kv w3 b (n + 1) (upd g x val) := by
  obtain ⟨es, clock, hb, F, hs, h1, h2, hf⟩ := found K hinj h hkey w
  have hG : Good P k kv n g es clock := ⟨F, hs, h1, h2⟩
  obtain ⟨s1, s2, s3⟩ := F.stamped
  rcases hf with ⟨f1, f2⟩ | ⟨j, e0, f1, f2, f3, f4⟩
  · have hw1 : (setBlock w b (.map (es.push ⟨kv x, z, clock⟩) (clock + 1))).heap[b]? = some (.map (es.push ⟨kv x, z, clock⟩) (clock + 1)) := heap_setBlock_same hb _
    refine ⟨clock, setBlock w b (.map (es.push ⟨kv x, z, clock⟩) (clock + 1)), ?_, only_block hb, ?_, fun w2 val hw2 => ?_⟩
    · simp [Instr.mapEntry, run_underlying ht, MapKept.run_getObj_map hb, K.check w false hkey, f1, hz, MapKept.run_setObj_map _ hb, Result.andThen, setBlock, f2]
    · rw [f2]
      exact (hG.push hinj hn hkey f2 z).is hw1
    · rw [hw1] at hw2
      refine ⟨setBlock w2 b (.map (es.push ⟨kv x, val, clock⟩) (clock + 1)), ?_, only_block hw2, (hG.push hinj hn hkey f2 val).is (heap_setBlock_same hw2 _)⟩
      have hidx : (es.push ⟨kv x, z, clock⟩).findIdx? (fun e => ((e.born : Nat) : Int) == ((clock : Nat) : Int)) = some es.size := by
        rw [Go.WideElems.findIdx_arr]
        refine Go.WideElems.findIdx_born (l := (es.push ⟨kv x, z, clock⟩).toList) (j := es.size) (e0 := ⟨kv x, z, clock⟩) ?_ (by simp)
        exact (hG.push hinj hn hkey f2 z).1.stamped.2.1
      have hmod : (es.push ⟨kv x, z, clock⟩).modify es.size (fun e => { e with val := val }) = es.push ⟨kv x, val, clock⟩ := by
        apply Array.ext'
        rw [Array.toList_modify, Array.toList_push, Array.toList_push, ← Array.length_toList, Go.WideElems.modify_last]
      simp [Instr.entryStore, MapKept.run_getObj_map hw2, asInt, asIntOf, goInt, hidx, hmod, MapKept.run_setObj_map _ hw2, Result.andThen, setBlock]
  · have hj : es[j]? = some e0 := by simpa using f2
    have hsame : es.modify j (fun e => { e with key := kv x }) = es := by
      apply Array.ext'
      rw [Array.toList_modify, modify_eq_set _ _ _ _ f2]
      have : ({ e0 with key := kv x } : MapEntry) = e0 := by rw [← f3]
      rw [this]
      exact Go.WideElems.set_self _ _ _ f2
    have hw1 : (setBlock w b (.map es clock)).heap[b]? = some (.map es clock) := heap_setBlock_same hb _
    refine ⟨e0.born, setBlock w b (.map es clock), ?_, only_block hb, ?_, fun w2 val hw2 => ?_⟩
    · simp [Instr.mapEntry, run_underlying ht, MapKept.run_getObj_map hb, K.check w false hkey, f1, hj, f3, K.stays w hkey, hsame, MapKept.run_setObj_map _ hb, Result.andThen, setBlock, f4]
    · have hg : upd g x ((g x).getD z) = g := by
        funext y
        unfold upd
        by_cases hy : y = x
        · rw [if_pos hy, hy, f4]; rfl
        · rw [if_neg hy]
      rw [hg]
      exact Good.is ⟨F, by omega, h1, h2⟩ hw1
    · rw [hw1] at hw2
      have hidx : es.findIdx? (fun e => ((e.born : Nat) : Int) == ((e0.born : Nat) : Int)) = some j := by
        rw [Go.WideElems.findIdx_arr]
        exact Go.WideElems.findIdx_born s2 f2
      refine ⟨setBlock w2 b (.map (es.modify j (fun e => { e with val := val })) clock), ?_, only_block hw2, (hG.set hinj f2 f3 val ?_).is (heap_setBlock_same hw2 _)⟩
      · simp [Instr.entryStore, MapKept.run_getObj_map hw2, asInt, asIntOf, goInt, hidx, MapKept.run_setObj_map _ hw2, Result.andThen, setBlock]
      · rw [Array.toList_modify, modify_eq_set _ _ _ _ f2]
end
end Go.Proofs.Ytlmdandgjapmjaa.Tb
