/- Contracts for layer key (6): a rising list with one more (the document's own answer). -/
import Derived.Test.YtepcbklokcfbfaaKeyB
import Derived.Deep.RegionHeld3
import Derived.Deep.RegionHeldLaw
namespace Go.Proofs.Ytepcbklokcfbfaa.Key
open Go.ChangeShapes Go.WideShapes Go.ChangeAt Go.RowKit
set_option linter.unusedVariables false
def insK (x : Ky) : List Ky → List Ky
  | [] => [x]
  | y :: l => if ltK x y then x :: y :: l else y :: insK x l
def intoK (l : List Ky) (x : Ky) : List Ky := if inK l x then l else insK x l
theorem insK_any {x y : Ky} : ∀ {l : List Ky}, l.any (ltK x) = true → insK x (l ++ [y]) = insK x l ++ [y]
  | [], h => by simp at h
  | z :: l, h => by
    simp only [List.cons_append, insK]
    by_cases hz : ltK x z = true
    · simp [hz]
    · simp only [hz, Bool.false_eq_true, if_false, List.cons_append]
      rw [insK_any (by simpa [hz] using h)]
theorem insK_none {x : Ky} : ∀ {l : List Ky}, l.any (ltK x) = false → insK x l = l ++ [x]
  | [], _ => rfl
  | z :: l, h => by
    simp only [List.any_cons, Bool.or_eq_false_iff] at h
    simp only [insK, h.1, Bool.false_eq_true, if_false, List.cons_append, insK_none h.2]
theorem insK_hit {x y : Ky} : ∀ {l : List Ky}, l.any (ltK x) = false → ltK x y = true → insK x (l ++ [y]) = l ++ [x] ++ [y]
  | [], _, hy => by simp [insK, hy]
  | z :: l, h, hy => by
    simp only [List.any_cons, Bool.or_eq_false_iff] at h
    simp only [List.cons_append, insK, h.1, Bool.false_eq_true, if_false, insK_hit h.2 hy]
theorem insK_len (x : Ky) : ∀ l : List Ky, (insK x l).length = l.length + 1
  | [] => rfl
  | z :: l => by
    unfold insK
    split
    · simp
    · simp [insK_len x l]
/-- What has come out by then. -/
def outK (x : Ky) (l : List Ky) : List Ky := if l.any (ltK x) then insK x l else l
theorem outK_len (x : Ky) (l : List Ky) : (outK x l).length ≤ l.length + 1 := by
  unfold outK; split
  · rw [insK_len]; omega
  · omega
theorem box_below (w : World) (o : Obj) : Below w.heap.size w (w.alloc o) := (Below.refl _ _).alloc (Nat.le_refl _) _
theorem cell_temp (w : World) (x : Ky) : ∀ j u, (enc x)[j]? = some u → (w.alloc (.cells #[.int .i64 x.1, .int .i64 x.2.1, .int .u32 x.2.2] 24)).cell? ((⟨w.heap.size, 0, none⟩ : Addr).add j) = some u := fun j u hu => by
  have h := Rw.At.box (enc := enc) (e := 24) w x #[.int .i64 x.1, .int .i64 x.2.1, .int .u32 x.2.2] rfl j u hu
  rw [Addr.add_lit]
  exact h
theorem out_step {wr W w2 : World} {base : Nat} {v v' : Value} {l : List Ky} {y : Ky} {tmp : Obj} (hown : OwnK wr base v l) (hB : Below wr.heap.size wr W) (hb : base ≤ wr.heap.size)
    (h : w2.ownsRow base 24 3 v' (l.length + 1) (l.flatMap enc ++ enc y)) (hg : (W.alloc tmp).grownBy w2 v.ownBlock) :
    OwnK w2 base v' (l ++ [y]) ∧ Below base wr w2 ∧ base ≤ w2.heap.size :=
  ⟨Rw.OwnS.snoc enc_len h, (hB.mono hb).trans (Own.below_append (hown.below hB) (Nat.le_trans hb hB.size) hg), by
    have h1 := hg.size
    rw [World.size_alloc] at h1
    have := hB.size
    omega⟩
end Go.Proofs.Ytepcbklokcfbfaa.Key
