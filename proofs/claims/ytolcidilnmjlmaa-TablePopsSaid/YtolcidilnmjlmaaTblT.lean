/- TablePops (layer 7): the table and the list of keys that are wanted, side by side. -/
import Derived.Test.YtolcidilnmjlmaaTblQ
import Derived.Test.YtolcidilnmjlmaaTblW
import Derived.Test.YtolcidilnmjlmaaTblK
import Derived.Test.YtolcidilnmjlmaaKeyO
import Derived.Deep.Cut
namespace Go.Proofs.Ytolcidilnmjlmaa.TblL
open Go.ChangeShapes Go.WideShapes Go.ChangeAt Go.RowKit Go.Sort
open Go.Proofs.Ytolcidilnmjlmaa.Key Go.Proofs.Ytolcidilnmjlmaa.Rw Go.Proofs.Ytolcidilnmjlmaa.Tbl
set_option linter.unusedVariables false
set_option linter.unusedSimpArgs false
theorem insP_ins {k : Ky} : ∀ {l : List Ky}, k ∉ l → insP l k = insK k l
  | [], _ => rfl
  | y :: l, h => by
    have hy : y ≠ k := fun e => h (by simp [e])
    have ih := insP_ins (k := k) (l := l) (fun e => h (by simp [e]))
    unfold insP pos at *
    unfold insK
    cases h1 : ltK y k with
    | true =>
      rw [if_neg (by rw [lt_asymm h1]; decide)]
      simp only [List.takeWhile_cons, h1, if_true, List.length_cons, List.take_succ_cons, List.drop_succ_cons, List.cons_append]
      rw [ih]
    | false =>
      have h2 : ltK k y = true := by
        cases h2 : ltK k y with
        | true => rfl
        | false => exact absurd (lt_total h1 h2) hy
      rw [if_pos h2]
      simp [List.takeWhile_cons, h1]
theorem keys_putD {most v : Int} {d : List Row} {k : Ky} (h : most - (d.length : Int) ≠ 0) : keys (putD most d k v) = intoK (keys d) k := by
  unfold putD intoK inK
  by_cases hm : k ∈ keys d
  · obtain ⟨x, hx⟩ := lookR_some hm
    rw [hx]
    simp [hm]
  · rw [lookR_none.2 hm]
    simp only [Option.isSome_none, Bool.false_eq_true, if_false, hm, decide_false]
    rw [if_neg h, keys_put, insP_ins hm]
theorem ones_putD {most : Int} {d : List Row} {k : Ky} (h : ∀ r ∈ d, r.2 = 1) : ∀ r ∈ putD most d k 1, r.2 = 1 := by
  unfold putD
  split
  · exact h
  · split
    · exact h
    · intro r hr
      unfold putR at hr
      rcases List.mem_append.1 hr with h1 | h1
      · exact h r (List.mem_of_mem_take h1)
      · rcases List.mem_cons.1 h1 with rfl | h1
        · rfl
        · exact h r (List.mem_of_mem_drop h1)
theorem rd_same {w w' : World} {ad : Option Addr} {l : List Ky} (h : RdK w ad l) (hs : w.heap.size ≤ w'.heap.size) (hb : ∀ x, ad = some x → w'.heap[x.block]? = w.heap[x.block]?) : RdK w' ad l := by
  rcases h with rfl | ⟨b, off, e, hb', hc⟩
  · exact .inl rfl
  · refine .inr ⟨b, off, e, Nat.lt_of_lt_of_le hb' hs, fun i hi j u hu => ?_⟩
    rw [← hc i hi j u hu]
    have := hb _ e
    simp only at this
    unfold World.cell?
    rw [this]
def PopS (w : World) (g : Nat) (d : List Row) (l : List Ky) (ad : Option Addr) (W : World) : Prop :=
  ∃ F, TabL W g 100 d F ∧ (∀ j, F j → w.heap.size ≤ j ∧ j < W.heap.size) ∧ Below w.heap.size w W ∧ RdK W ad l ∧ ∀ x, ad = some x → x.block < W.heap.size ∧ ¬ F x.block
section
variable {w W W' : World} {g : Nat} {d : List Row} {l : List Ky} {ad : Option Addr}
theorem PopS.below (h : PopS w g d l ad W) (hB : Below W.heap.size W W') : PopS w g d l ad W' := by
  obtain ⟨F, h1, h2, h3, h4, h5⟩ := h
  refine ⟨F, h1.below hB, fun j hj => ?_, h3.trans (hB.mono h3.size), h4.below hB, fun x e => ?_⟩
  · have := h2 j hj; have := hB.size; omega
  · have := h5 x e; have := hB.size; exact ⟨by omega, (h5 x e).2⟩
theorem PopS.to (h : PopS w g d l ad W) : Below w.heap.size w W := by obtain ⟨F, h1, h2, h3, h4, h5⟩ := h; exact h3
theorem PopS.rd (h : PopS w g d l ad W) : RdK W ad l := by obtain ⟨F, h1, h2, h3, h4, h5⟩ := h; exact h4
theorem PopS.str (h : PopS w g d l ad W) : Str (keys d) := by obtain ⟨F, ⟨mb, ov, -, -, -, h4, -⟩, -⟩ := h; exact h4
theorem popS_post {F : Nat → Prop} {d' : List Row} (h2 : ∀ j, F j → w.heap.size ≤ j ∧ j < W.heap.size) (h3 : Below w.heap.size w W) (h4 : RdK W ad l) (h5 : ∀ x, ad = some x → x.block < W.heap.size ∧ ¬ F x.block) (hp : TabPost g 100 d' F W W') : PopS w g d' l ad W' := by
  obtain ⟨p1, p2⟩ := hp
  have hs := p2.size
  have hs3 := h3.size
  refine ⟨_, p1, fun j hj => ?_, h3.trans (p2.below (fun j hj => (h2 j hj).1) hs3), rd_same h4 hs (fun x e => p2.block _ (h5 x e).1 (h5 x e).2), fun x e => ?_⟩
  · rcases hj with hj | ⟨hj1, hj2⟩
    · have := h2 j hj; omega
    · omega
  · have := h5 x e
    refine ⟨by omega, fun hj => ?_⟩
    rcases hj with hj | ⟨hj1, hj2⟩
    · exact this.2 hj
    · omega
theorem PopS.put (h : PopS w g d l ad W) (k : Ky) (v : Int) (hk : ok k) (hd : d.length ≤ 255) :
    Calls Try.prog 12 #[.pointer (some ⟨g, 0, none⟩), kval k, .int .i64 v] W fun e w' => e = .returned (.int .i64 (putE 100 d k)) ∧ PopS w g (putD 100 d k v) l ad w' := by
  obtain ⟨F, h1, h2, h3, h4, h5⟩ := h
  exact (put_any k v hk g 100 d F W h1 (by decide) hd).mono fun e w' hh => ⟨hh.1, popS_post h2 h3 h4 h5 hh.2⟩
theorem PopS.pop {W0 : World} (h : PopS w g d l ad W0) (hB : Below W0.heap.size W0 W) (hd : d.length ≤ 255) :
    Calls Try.prog 14 #[.pointer (some ⟨g, 0, none⟩)] W fun e w' => e = .returned (.tuple #[kval (minK d), .int .i64 (minV d), .bool (some1 d)]) ∧ PopS w g d.tail l ad w' ∧ ∀ b t cs, W0.heap.size ≤ b → Blk W b t cs → Blk w' b t cs := by
  have hb := h.below hB
  obtain ⟨F, h1, h2, h3, h4, h5⟩ := h
  have hs := hB.size
  refine (pop_any g 100 d F W (h1.below hB) (fun j hj => by have := h2 j hj; omega) (by omega)).mono fun e w' hh => ⟨hh.1, popS_post (F := F) (W := W) ?_ ?_ ?_ ?_ hh.2.post, fun b t cs hb hk => ?_⟩
  · exact fun j hj => by have := h2 j hj; omega
  · exact h3.trans (hB.mono h3.size)
  · exact h4.below hB
  · exact fun x e => by have := h5 x e; exact ⟨by omega, this.2⟩
  · exact hk.stay hh.2.2 (fun e => by have := h2 _ e; omega)
theorem PopS.into (h : PopS w g d l ad W) (x : Ky) (cap : Nat) (hm : l.length ≤ 1000000) (hcap : l.length ≤ cap) :
    Calls Try.prog 13 #[.slice ad l.length cap, kval x] W fun e w' => ∃ ad' cap', e = .returned (.slice ad' (intoK l x).length cap') ∧ PopS w g d (intoK l x) ad' w' ∧ (intoK l x).length ≤ cap' := by
  refine (rinto_new ad l.length cap l x W rfl hm h.rd hcap).mono fun e w' hh => ?_
  obtain ⟨ad', cap', he, hB, hh⟩ := hh
  have h' := h.below hB
  refine ⟨ad', cap', he, ?_, ?_⟩
  · rcases hh with ⟨rfl, -, e2⟩ | ho
    · rw [e2]; exact h'
    · obtain ⟨F, h1, h2, h3, h4, h5⟩ := h
      have hs := hB.size
      refine ⟨F, h1.below hB, fun j hj => by have := h2 j hj; omega, h3.trans (hB.mono h3.size), (ho.rd enc_len).1, fun y e => ?_⟩
      subst e
      have ho' := ho
      unfold OwnK OwnS at ho'
      rcases ho'.2 with ⟨hv, -⟩ | ⟨g', c', cur, hv, hb, hg, -⟩
      · cases hv
      · simp only [Value.slice.injEq, Option.some.injEq] at hv
        obtain ⟨rfl, -, -⟩ := hv
        exact ⟨(Array.getElem?_eq_some_iff.1 hg).1, fun e => by have := h2 _ e; simp only at this; omega⟩
  · rcases hh with ⟨-, rfl, e2⟩ | ho
    · rw [e2]; exact hcap
    · exact ho.pos.1
end
end Go.Proofs.Ytolcidilnmjlmaa.TblL
