/- Contracts of package round (layer 25): a round in memory; New, No, Get, Len, Next. -/
import Derived.Test.YtcadmepfnafpmaaRndD
import Derived.Test.YtcadmepfnafpmaaRowC
import Derived.Test.YtcadmepfnafpmaaI64A
namespace Go.Proofs.Ytcadmepfnafpmaa.Rnd
open Go.ChangeShapes Go.WideShapes Go.ChangeAt Go.RowKit Go.Maps
set_option linter.unusedVariables false
set_option linter.unusedSimpArgs false
def in64 (x : Int) : Prop := -9223372036854775808 ≤ x ∧ x ≤ 9223372036854775807
theorem lawI : Keyed Try.prog 3 := int_keyed Try.underlying3
theorem zero64 (w : World) : (zeroValue 2).run Try.prog w = .ok (.int .i64 0) w := by kernel_rfl
theorem wf64 {x : Int} (h : in64 x) : (Lit.int .i64 x).wf = true := by
  unfold in64 at h
  simp [Lit.wf, IntKind.min, IntKind.max, IntKind.bits, IntKind.signed]; omega
theorem keyI {x : Int} (h : in64 x) : keyOf Try.prog 3 (.int .i64 x) = some (.int .i64 x) := keyOf_int_mk Try.underlying3 (wf64 h)
theorem elem64 {x : Int} (h : in64 x) : plainElem (H := Unit) Try.prog 2 (.int .i64 x) = some (.lit (.int .i64 x), []) := plainElem_int Try.underlying2 (wf64 h)
theorem ret_mid {a b : Int} {c d : Bool} (h : a = b) (h2 : c = d) : Ending.returned (.tuple #[.int .i64 a, .bool c]) = .returned (.tuple #[.int .i64 b, .bool d]) := by rw [h, h2]
/-- A map by nodes in memory. -/
def OM (w : World) (b n : Nat) (D : DataW Unit) : Prop := w.ownsMap Try.prog 3 (plainElem Try.prog 2) b n D
def MapR (w : World) (B : Nat) (mb : Option Nat) (L : List Rg) : Prop :=
  (mb = none ∧ L = []) ∨ ∃ b D, mb = some b ∧ B ≤ b ∧ OM w b L.length D ∧ Md D L
section
variable {w w' : World} {B g : Nat} {no : Int} {mb : Option Nat} {L : List Rg}
theorem OM.of_block {b n : Nat} {D : DataW Unit} (h : OM w b n D) (hb : w'.heap[b]? = w.heap[b]?) : OM w' b n D := by
  obtain ⟨es, clock, h0, r⟩ := h
  exact ⟨es, clock, hb.trans h0, r⟩
theorem OM.lt {b n : Nat} {D : DataW Unit} (h : OM w b n D) : b < w.heap.size := World.ownsMap.lt h
theorem MapR.of_block (h : MapR w B mb L) (hb : ∀ b, mb = some b → w'.heap[b]? = w.heap[b]?) : MapR w' B mb L := by
  rcases h with h | ⟨b, D, e, hB, ho, hm⟩
  · exact .inl h
  · exact .inr ⟨b, D, e, hB, ho.of_block (hb b e), hm⟩
theorem MapR.lt (h : MapR w B mb L) {b : Nat} (e : mb = some b) : b < w.heap.size ∧ B ≤ b := by
  rcases h with ⟨e', _⟩ | ⟨b', D, e', hB, ho, hm⟩
  · rw [e'] at e; cases e
  · rw [e'] at e; cases e; exact ⟨ho.lt, hB⟩
theorem MapR.below (h : MapR w B mb L) (hb : Below w.heap.size w w') : MapR w' B mb L := h.of_block (fun b e => hb.block b (h.lt e).1)
theorem MapR.look (h : MapR w B mb L) {x : Int} (hx : in64 x) :
    (Instr.lookup 53 (.map mb) (.int .i64 x) true).run Try.prog w = .ok (.tuple #[.int .i64 (getR L x), .bool (hasR L x)]) w := by
  rcases h with ⟨rfl, rfl⟩ | ⟨b, D, rfl, _, ho, hm⟩
  · exact Maps.look_nil true lawI Try.underlying53 (zero64 w) (keyI hx)
  · obtain ⟨v, ps, hrun, hv⟩ := World.ownsMap.look_ok ho lawI Try.underlying53 (zero64 w) (elem64 (x := 0) (by unfold in64; omega)) (keyI hx)
    obtain ⟨c, rfl, hc, hwc⟩ := plainElem_int_inv Try.underlying2 hv
    simp only [Prod.mk.injEq] at hc
    have := hm.look hc.1
    rw [hrun, this, hm.has_]
theorem MapR.len (h : MapR w B mb L) (ty : TypeId) : (Builtin.len_ #[53] ty #[.map mb]).run Try.prog w = .ok (.int .i64 (L.length : Int)) w := by
  rcases h with ⟨rfl, rfl⟩ | ⟨b, D, rfl, _, ho, hm⟩
  · exact Maps.len_nil Try.underlying53 ty
  · rw [World.ownsMap.len ho Try.underlying53 ty, hm.size_]
/-- A round in memory: its box, its map's block (if there is one), its readings in the order in which they were noted. -/
structure RR (w : World) (B g : Nat) (no : Int) (mb : Option Nat) (L : List Rg) : Prop where
  blk : Rw.Blk w g 55 #[.int .i64 no, .map mb]
  map : MapR w B mb L
  ge : B ≤ g
  ok : Ok L
theorem RR.of (h : RR w B g no mb L) (hg : w'.heap[g]? = w.heap[g]?) (hb : ∀ b, mb = some b → w'.heap[b]? = w.heap[b]?) : RR w' B g no mb L := ⟨hg.trans h.blk, h.map.of_block hb, h.ge, h.ok⟩
theorem RR.below (h : RR w B g no mb L) (hb : Below w.heap.size w w') : RR w' B g no mb L := ⟨h.blk.below hb, h.map.below hb, h.ge, h.ok⟩
theorem RR.lt (h : RR w B g no mb L) : g < w.heap.size := h.blk.lt
theorem RR.ne (h : RR w B g no mb L) {b : Nat} (e : mb = some b) : g ≠ b := by
  rintro rfl
  rcases h.map with ⟨e', _⟩ | ⟨b', D, e', _, ho, _⟩
  · rw [e'] at e; cases e
  · rw [e'] at e
    cases e
    obtain ⟨es, cl, hes, -⟩ := ho
    have := h.blk.symm.trans hes
    simp at this
theorem RR.c0 (h : RR w B g no mb L) : w.cell? ⟨g, 0, none⟩ = some (.int .i64 no) := h.blk.cell 0
theorem RR.c1 (h : RR w B g no mb L) : w.cell? ⟨g, 1, none⟩ = some (.map mb) := h.blk.cell 1
end
def NewPost (no : Int) (w : World) (e : Ending) (w' : World) : Prop :=
  ∃ g, e = .returned (.pointer (some ⟨g, 0, none⟩)) ∧ RR w' w.heap.size g no none [] ∧ Below w.heap.size w w'
theorem new_post (no : Int) (w : World) : NewPost no w (.returned (.pointer (some ⟨w.heap.size, 0, none⟩))) (w.alloc (.cells #[.int .i64 no, .map none] 55)) :=
  ⟨_, rfl, ⟨Rw.Blk.new w _ _, .inl ⟨rfl, rfl⟩, Nat.le_refl _, Ok.nil⟩, (Below.refl _ _).alloc (Nat.le_refl _) _⟩
theorem rnew_any (no : Int) (w : World) : Calls Try.prog 8 #[.int .i64 no] w (NewPost no w) := by
  have HP := Lib.hid (new_post no w)
  generalize NewPost no w = Q at *
  go_enter Try.func8, Try.ntmps8
  go_wp2_with fail
  first | exact HP.out | (go_ret; exact HP.out)
theorem rno_any {B g : Nat} {no : Int} {mb : Option Nat} {L : List Rg} (w : World) (h : RR w B g no mb L) :
    Calls Try.prog 14 #[.pointer (some ⟨g, 0, none⟩)] w fun e w' => e = .returned (.int .i64 no) ∧ w = w' := by
  have c0 := h.c0
  clear h
  go_enter Try.func14, Try.ntmps14
  go_wp2_with fail
  go_ret
  exact ⟨rfl, rfl⟩
theorem rlen_any {B g : Nat} {no : Int} {mb : Option Nat} {L : List Rg} (w : World) (h : RR w B g no mb L) :
    Calls Try.prog 15 #[.pointer (some ⟨g, 0, none⟩)] w fun e w' => e = .returned (.int .i64 (L.length : Int)) ∧ w = w' := by
  have c1 := h.c1
  have hl := fun ty => h.map.len ty
  clear h
  generalize L.length = n at *
  go_enter Try.func15, Try.ntmps15
  go_wp2_with fail
  go_ret
  exact ⟨rfl, rfl⟩
theorem rget_any {B g : Nat} {no : Int} {mb : Option Nat} {L : List Rg} {x : Int} (hx : in64 x) (w : World) (h : RR w B g no mb L) :
    Calls Try.prog 11 #[.pointer (some ⟨g, 0, none⟩), .int .i64 x] w fun e w' => e = .returned (.tuple #[.int .i64 (getR L x), .bool (hasR L x)]) ∧ w = w' := by
  have c1 := h.c1
  have hl := h.map.look hx
  clear h
  generalize getR L x = v at *
  generalize hasR L x = b at *
  go_enter Try.func11, Try.ntmps11
  go_wp2_with fail
  go_ret2
  exact ⟨rfl, rfl⟩
/-- The next round's number. -/
def nxN (no : Int) : Int := min no 9223372036854775806 + 1
theorem rnext_any {B g : Nat} {no : Int} {mb : Option Nat} {L : List Rg} (hno : in64 no) (w : World) (h : RR w B g no mb L) :
    Calls Try.prog 23 #[.pointer (some ⟨g, 0, none⟩)] w (NewPost (nxN no) w) := by
  have c0 := h.c0
  have HW : nxN no = wrap64 (min no 9223372036854775806 + 1) := by unfold in64 at hno; unfold nxN wrap64; omega
  have C := Lib.hid (rnew_any (nxN no) w)
  unfold NewPost at *
  rw [HW] at C
  have HW2 := Lib.hid HW
  clear h hno HW
  go_enter Try.func23, Try.ntmps23
  go_wp2_with fail
  refine (C.out).mono ?_; rintro e w' ⟨g', rfl, h1, h2⟩
  have K1 := Lib.hid h1
  clear h1
  go_wp2_with fail
  go_ret
  exact ⟨_, rfl, by rw [HW2.out]; exact K1.out, h2⟩
theorem rno_nil (w : World) : Calls Try.prog 14 #[.pointer none] w fun e w' => e = .returned (.int .i64 0) ∧ w = w' := by
  go_enter Try.func14, Try.ntmps14
  go_wp2_with fail
  go_ret
  exact ⟨rfl, rfl⟩
theorem rlen_nil (w : World) : Calls Try.prog 15 #[.pointer none] w fun e w' => e = .returned (.int .i64 0) ∧ w = w' := by
  go_enter Try.func15, Try.ntmps15
  go_wp2_with fail
  go_ret
  exact ⟨rfl, rfl⟩
theorem rwho_nil (w : World) : Calls Try.prog 16 #[.pointer none] w fun e w' => e = .returned (.int .u64 0) ∧ w = w' := by
  go_enter Try.func16, Try.ntmps16
  go_wp2_with fail
  go_ret
  exact ⟨rfl, rfl⟩
theorem rget_nil (x : Int) (w : World) : Calls Try.prog 11 #[.pointer none, .int .i64 x] w fun e w' => e = .returned (.tuple #[.int .i64 0, .bool false]) ∧ w = w' := by
  go_enter Try.func11, Try.ntmps11
  go_wp2_with fail
  go_ret2
  exact ⟨rfl, rfl⟩
theorem rclose_nil (x : Int) (w : World) : Calls Try.prog 12 #[.pointer none, .int .i64 x] w fun e w' => e = .returned (.tuple #[.int .i64 0, .bool false]) ∧ w = w' := by
  go_enter Try.func12, Try.ntmps12
  go_wp2_with fail
  go_ret2
  exact ⟨rfl, rfl⟩
theorem rnext_nil (w : World) : Calls Try.prog 23 #[.pointer none] w fun e w' => e = .returned (.pointer none) ∧ w = w' := by
  go_enter Try.func23, Try.ntmps23
  go_wp2_with fail
  go_ret
  exact ⟨rfl, rfl⟩
theorem rnote_nil (x d : Int) (w : World) : Calls Try.prog 9 #[.pointer none, .int .i64 x, .int .i64 d] w fun e w' => e = .returned (.int .i64 1) ∧ w = w' := by
  go_enter Try.func9, Try.ntmps9
  go_wp2_with fail
  go_ret
  exact ⟨rfl, rfl⟩
end Go.Proofs.Ytcadmepfnafpmaa.Rnd
