/- KeyA KeyB KeyC KeyD KeyE, laid into one. -/
import Derived.Test.YtanfnhgaooafeaaGreatDoorRowX
import Derived.Test.YtanfnhgaooafeaaGreatDoorProg
import Derived.WalkKit
import Derived.ProofKit
import Derived.OpenShut
import Derived.Below
import Derived.Laws.StructEq
import Derived.Lib.Hide
import Derived.Lib.Small
import Derived.TacticsInMore
import Derived.Deep.QuietTactic
import Derived.BigQuiet
import Derived.OwnWalkIn
import Derived.Deep.RegionHeld3
import Derived.Deep.RegionHeldLaw
import Derived.Handy
import Derived.Sort.Grow
import Derived.Deep.Cut
/-! KeyA -/
namespace Go.Proofs.YtanfnhgaooafeaaGreatDoor.Key
open Go.ChangeShapes Go.WideShapes Go.ChangeAt Go.RowKit
set_option linter.unusedVariables false
abbrev Ky := Int × Int × Int
def enc (x : Ky) : List Value := [.int .i64 x.1, .int .i64 x.2.1, .int .u32 x.2.2]
def kval (x : Ky) : Value := .agg #[.int .i64 x.1, .int .i64 x.2.1, .int .u32 x.2.2]
/-- What a key's type holds. -/
def ok (x : Ky) : Prop := (-9223372036854775808 ≤ x.1 ∧ x.1 ≤ 9223372036854775807) ∧ (-9223372036854775808 ≤ x.2.1 ∧ x.2.1 ≤ 9223372036854775807) ∧ (0 ≤ x.2.2 ∧ x.2.2 ≤ 4294967295)
def ltK (x y : Ky) : Bool := decide (x.1 < y.1 ∨ (x.1 = y.1 ∧ (x.2.1 < y.2.1 ∨ (x.2.1 = y.2.1 ∧ x.2.2 < y.2.2))))
def eqK (x y : Ky) : Bool := decide (x = y)
def goodK (x : Ky) : Bool := decide (0 ≤ x.1 ∧ x.1 ≤ 1152921504606846976 ∧ 0 ≤ x.2.1 ∧ x.2.1 < 64)
theorem kval_inj {x y : Ky} (h : kval x = kval y) : x = y := by
  obtain ⟨a, b, c⟩ := x
  obtain ⟨d, e, f⟩ := y
  simp [kval] at h
  obtain ⟨rfl, rfl, rfl⟩ := h
  rfl
theorem enc_len (x : Ky) : (enc x).length = 3 := rfl
theorem enc_one (x : Ky) : ∀ v ∈ enc x, v.oneCell' = true := fun v hv => by simp [enc] at hv; rcases hv with rfl | rfl | rfl <;> rfl
/-- A slice reads as a list of keys. -/
abbrev RdK (w : World) (ad : Option Addr) (l : List Ky) : Prop := Rw.Rd enc 3 w ad l
abbrev OwnK (w : World) (base : Nat) (v : Value) (l : List Ky) : Prop := Rw.OwnS enc 3 24 w base v l
abbrev PostK (l : List Ky) (w : World) (x : Ending) (w' : World) : Prop := Rw.Post enc 3 24 l w x w'
theorem at3 {w : World} {b o : Nat} {x : Ky} (h : Rw.At enc w b o x) : w.cell? ⟨b, o, none⟩ = some (.int .i64 x.1) ∧ w.cell? ⟨b, o + 1, none⟩ = some (.int .i64 x.2.1) ∧ w.cell? ⟨b, o + 2, none⟩ = some (.int .u32 x.2.2) := ⟨h 0 _ rfl, h 1 _ rfl, h 2 _ rfl⟩
@[go_sem high] theorem eq_rule (a b c d e f : Int) (w : World) : (Op.equalIn 10000 24 (.agg #[.int .i64 a, .int .i64 b, .int .u32 c]) (.agg #[.int .i64 d, .int .i64 e, .int .u32 f])).run Tryz.prog w = .ok (eqK (a, b, c) (d, e, f)) w := by
  have hS : Tryz.prog.underlying 24 = some (.struct (Tryz.prog.fieldsOf 24)) := by kernel_rfl
  have hp : Tryz.prog.stoodInHeld 24 = false := by kernel_rfl
  rw [show (10000 : Nat) = 9999 + 1 from rfl, run_equalIn_struct w 9999 24 _ _ hS hp]
  simp only [Program.fieldsOf, Tryz.underlying24]
  go_simp
  by_cases h1 : a = d <;> by_cases h2 : b = e <;> by_cases h3 : c = f <;> simp [h1, h2, h3, eqK]
theorem rgood_any (x : Ky) (w : World) :
    Calls Tryz.prog 84 #[kval x] w fun e w' => e = .returned (.bool (goodK x)) ∧ Below w.heap.size w w' := by
  obtain ⟨a, b, c⟩ := x
  have hB : Below w.heap.size w (w.alloc (.cells #[.int .i64 a, .int .i64 b, .int .u32 c] 24)) := (Below.refl _ _).alloc (Nat.le_refl _) _
  unfold kval
  by_cases h1 : 0 ≤ a
  · by_cases h2 : a ≤ 1152921504606846976
    · by_cases h3 : 0 ≤ b
      · have hv : goodK (a, b, c) = decide (b < 64) := by simp [goodK, h1, h2, h3]
        rw [hv]
        go_enter Tryz.func84, Tryz.ntmps84
        go_wp2_with fail
        go_ret
        exact ⟨rfl, hB⟩
      · have hv : goodK (a, b, c) = false := by simp [goodK, h1, h2, h3]
        rw [hv]
        go_enter Tryz.func84, Tryz.ntmps84
        go_wp2_with fail
        go_ret
        exact ⟨rfl, hB⟩
    · have hv : goodK (a, b, c) = false := by simp [goodK, h1, h2]
      rw [hv]
      go_enter Tryz.func84, Tryz.ntmps84
      go_wp2_with fail
      go_ret
      exact ⟨rfl, hB⟩
  · have hv : goodK (a, b, c) = false := by simp [goodK, h1]
    rw [hv]
    go_enter Tryz.func84, Tryz.ntmps84
    go_wp2_with fail
    go_ret
    exact ⟨rfl, hB⟩
end Go.Proofs.YtanfnhgaooafeaaGreatDoor.Key
/-! KeyB -/
namespace Go.Proofs.YtanfnhgaooafeaaGreatDoor.Key
open Go.ChangeShapes Go.WideShapes Go.ChangeAt Go.RowKit
set_option linter.unusedVariables false
theorem infoKey : (Tryz.prog.info? 24).map (fun i => (i.zero, i.size, i.bytes)) = some (some (.agg #[.int .i64 0, .int .i64 0, .int .u32 0]), 3, 24) := by kernel_rfl
def inK (l : List Ky) (x : Ky) : Bool := decide (x ∈ l)
theorem take_succ' {α : Type} [Inhabited α] {l : List α} {k : Nat} (h : k < l.length) : l.take (k + 1) = l.take k ++ [l.getD k default] := by
  rw [List.take_succ_eq_append_getElem h]; simp [List.getD, h]
end Go.Proofs.YtanfnhgaooafeaaGreatDoor.Key
/-! KeyC -/
namespace Go.Proofs.YtanfnhgaooafeaaGreatDoor.Key
open Go.ChangeShapes Go.WideShapes Go.ChangeAt Go.RowKit
set_option linter.unusedVariables false
def insK (x : Ky) : List Ky → List Ky
  | [] => [x]
  | y :: l => if ltK x y then x :: y :: l else y :: insK x l
def intoK (l : List Ky) (x : Ky) : List Ky := if inK l x then l else insK x l
theorem insK_any {x y : Ky} : ∀ {l : List Ky}, l.any (ltK x) = true → insK x (l ++ [y]) = insK x l ++ [y]
  | [], h => by simp at h
  | z :: l, h => by
    simp only [List.cons_append, insK]
    by_cases hz : ltK x z = true
    · simp [hz]
    · simp only [hz, Bool.false_eq_true, if_false, List.cons_append]
      rw [insK_any (by simpa [hz] using h)]
theorem insK_none {x : Ky} : ∀ {l : List Ky}, l.any (ltK x) = false → insK x l = l ++ [x]
  | [], _ => rfl
  | z :: l, h => by
    simp only [List.any_cons, Bool.or_eq_false_iff] at h
    simp only [insK, h.1, Bool.false_eq_true, if_false, List.cons_append, insK_none h.2]
theorem insK_hit {x y : Ky} : ∀ {l : List Ky}, l.any (ltK x) = false → ltK x y = true → insK x (l ++ [y]) = l ++ [x] ++ [y]
  | [], _, hy => by simp [insK, hy]
  | z :: l, h, hy => by
    simp only [List.any_cons, Bool.or_eq_false_iff] at h
    simp only [List.cons_append, insK, h.1, Bool.false_eq_true, if_false, insK_hit h.2 hy]
theorem insK_len (x : Ky) : ∀ l : List Ky, (insK x l).length = l.length + 1
  | [] => rfl
  | z :: l => by
    unfold insK
    split
    · simp
    · simp [insK_len x l]
/-- What has come out by then. -/
def outK (x : Ky) (l : List Ky) : List Ky := if l.any (ltK x) then insK x l else l
theorem outK_len (x : Ky) (l : List Ky) : (outK x l).length ≤ l.length + 1 := by
  unfold outK; split
  · rw [insK_len]; omega
  · omega
theorem box_below (w : World) (o : Obj) : Below w.heap.size w (w.alloc o) := (Below.refl _ _).alloc (Nat.le_refl _) _
theorem cell_temp (w : World) (x : Ky) : ∀ j u, (enc x)[j]? = some u → (w.alloc (.cells #[.int .i64 x.1, .int .i64 x.2.1, .int .u32 x.2.2] 24)).cell? ((⟨w.heap.size, 0, none⟩ : Addr).add j) = some u := fun j u hu => by
  have h := Rw.At.box (enc := enc) (e := 24) w x #[.int .i64 x.1, .int .i64 x.2.1, .int .u32 x.2.2] rfl j u hu
  rw [Addr.add_lit]
  exact h
theorem out_step {wr W w2 : World} {base : Nat} {v v' : Value} {l : List Ky} {y : Ky} {tmp : Obj} (hown : OwnK wr base v l) (hB : Below wr.heap.size wr W) (hb : base ≤ wr.heap.size)
    (h : w2.ownsRow base 24 3 v' (l.length + 1) (l.flatMap enc ++ enc y)) (hg : (W.alloc tmp).grownBy w2 v.ownBlock) :
    OwnK w2 base v' (l ++ [y]) ∧ Below base wr w2 ∧ base ≤ w2.heap.size :=
  ⟨Rw.OwnS.snoc enc_len h, (hB.mono hb).trans (Own.below_append (hown.below hB) (Nat.le_trans hb hB.size) hg), by
    have h1 := hg.size
    rw [World.size_alloc] at h1
    have := hB.size
    omega⟩
end Go.Proofs.YtanfnhgaooafeaaGreatDoor.Key
/-! KeyD -/
namespace Go.Proofs.YtanfnhgaooafeaaGreatDoor.Key
open Go.ChangeShapes Go.WideShapes Go.ChangeAt Go.RowKit Go.Sort
set_option linter.unusedVariables false
def cI (x y : Int) : Int := if x < y then -1 else if y < x then 1 else 0
def orI (a b c : Int) : Int := if a ≠ 0 then a else if b ≠ 0 then b else c
def cmpK (x y : Ky) : Int := orI (cI x.1 y.1) (cI x.2.1 y.2.1) (cI x.2.2 y.2.2)
theorem cmp_lt (x y : Ky) : decide (cmpK x y < 0) = ltK x y := by
  unfold cmpK orI cI ltK
  rw [decide_eq_decide]
  repeat' split
  all_goals omega
/-- A world that has grown, and drawn. -/
def Gr (w W : World) : Prop := ∃ q os, W = grow (w.drewN q) os
theorem Gr.refl (w : World) : Gr w w := ⟨0, #[], by rw [grow_empty]; rfl⟩
theorem Gr.drew {w W : World} (h : Gr w W) : Gr w W.drew := by
  obtain ⟨q, os, rfl⟩ := h
  exact ⟨q + 1, os, rfl⟩
theorem Gr.alloc {w W : World} (h : Gr w W) (o : Obj) : Gr w (W.alloc o) := by
  obtain ⟨q, os, rfl⟩ := h
  exact ⟨q, os ++ #[o], by rw [alloc_eq_grow, grow_grow]⟩
theorem Gr.trans {w w1 w2 : World} (h : Gr w w1) (h' : Gr w1 w2) : Gr w w2 := by
  obtain ⟨q, os, rfl⟩ := h
  obtain ⟨q', os', rfl⟩ := h'
  exact ⟨q + q', os ++ os', by simp [grow, World.drewN, Nat.add_assoc]⟩
theorem Gr.below {w W : World} (h : Gr w W) : Below w.heap.size w W := by
  obtain ⟨q, os, rfl⟩ := h
  refine ⟨rfl, rfl, rfl, by simp [grow, World.drewN], fun k hk => ?_⟩
  rw [heap_grow_old _ _ (by simpa [World.drewN] using hk)]
  rfl
end Go.Proofs.YtanfnhgaooafeaaGreatDoor.Key
/-! KeyE -/
namespace Go.Proofs.YtanfnhgaooafeaaGreatDoor.Key
open Go.ChangeShapes Go.WideShapes Go.ChangeAt Go.RowKit Go.Sort
set_option linter.unusedVariables false
theorem isnode_any (x : Int) (w : World) : Calls Tryz.prog 101 #[.int .i64 x] w fun e w' => e = .returned (.bool (decide (0 ≤ x ∧ x < 64))) ∧ w = w' := by
  by_cases h1 : 0 ≤ x
  · have hv : decide (0 ≤ x ∧ x < 64) = decide (x < 64) := by simp [h1]
    rw [hv]
    go_enter Tryz.func101, Tryz.ntmps101
    go_wp2_with fail
    go_ret
    exact ⟨rfl, rfl⟩
  · have hv : decide (0 ≤ x ∧ x < 64) = false := by simp [h1]
    rw [hv]
    go_enter Tryz.func101, Tryz.ntmps101
    go_wp2_with fail
    go_ret
    exact ⟨rfl, rfl⟩
theorem good_any (x : Ky) (w : World) :
    Calls Tryz.prog 89 #[kval x] w fun e w' => e = .returned (.bool (goodK x)) ∧ Below w.heap.size w w' := by
  obtain ⟨a, b, c⟩ := x
  have hB : Below w.heap.size w (w.alloc (.cells #[.int .i64 a, .int .i64 b, .int .u32 c] 24)) := box_below _ _
  have C := Lib.hid (fun W => isnode_any b W)
  unfold kval
  by_cases h1 : 0 ≤ a
  · by_cases h2 : a ≤ 1152921504606846976
    · have hv : goodK (a, b, c) = decide (0 ≤ b ∧ b < 64) := by simp [goodK, h1, h2]
      rw [hv]
      generalize decide (0 ≤ b ∧ b < 64) = r at *
      go_enter Tryz.func89, Tryz.ntmps89
      go_wp2_with fail
      refine (C.out _).mono ?_; rintro e w' ⟨rfl, rfl⟩
      go_wp2_with fail
      go_ret
      exact ⟨rfl, hB⟩
    · have hv : goodK (a, b, c) = false := by simp [goodK, h1, h2]
      rw [hv]
      go_enter Tryz.func89, Tryz.ntmps89
      go_wp2_with fail
      go_ret
      exact ⟨rfl, hB⟩
  · have hv : goodK (a, b, c) = false := by simp [goodK, h1]
    rw [hv]
    go_enter Tryz.func89, Tryz.ntmps89
    go_wp2_with fail
    go_ret
    exact ⟨rfl, hB⟩
def aval (a b c : Int) : Value := .agg #[.int .i64 a, .int .i64 b, .int .i64 c]
def okA (b c : Int) : Bool := decide (0 ≤ b ∧ b < 64) && decide (0 ≤ c ∧ c ≤ 4294967295)
def ofA (a b c : Int) : Ky := if okA b c then (a, b, c) else (0, 0, 0)
def risK (l : List Ky) : Bool := (List.range (l.length - 1)).all fun j => ltK (l.getD j default) (l.getD (j + 1) default)
end Go.Proofs.YtanfnhgaooafeaaGreatDoor.Key
