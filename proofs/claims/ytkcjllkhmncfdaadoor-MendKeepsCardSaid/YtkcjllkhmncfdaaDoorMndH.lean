/- Layer 27's law that nothing is changed: a turn that came in, as it lies in memory. -/
import Derived.Test.YtkcjllkhmncfdaaDoorMndW
import Derived.Test.YtkcjllkhmncfdaaDoorMndO
import Derived.Test.YtkcjllkhmncfdaaDoorMndG
import Derived.Test.YtkcjllkhmncfdaaDoorMndS
import Derived.Test.YtkcjllkhmncfdaaDoorMndD
import Derived.Test.YtkcjllkhmncfdaaDoorMndK
namespace Go.Proofs.YtkcjllkhmncfdaaDoor.Mnd
open Go.ChangeShapes Go.WideShapes Go.ChangeAt Go.RowKit
open I64s (Sl)
set_option linter.unusedVariables false
theorem ll_of {w : World} {a : Option Addr} {len cap : Nat} {R : List Lst.Ro} (h : Lst.Ros .i64 w a len cap R) : ∃ rs : List Rw, rs.length = len ∧ LL w a rs := by
  have key : ∀ r ∈ R, ∃ q : Rw, q.ad = r.ad ∧ q.cap = r.cap ∧ q.zs.length = r.len ∧ Sl w q.ad q.cap q.zs := fun r hr => by
    obtain ⟨l, h1, h2, _⟩ := I64s.row_sl (h.each r hr)
    exact ⟨⟨r.ad, r.cap, l⟩, rfl, rfl, h2, h1⟩
  have all : ∀ (R : List Lst.Ro), (∀ r ∈ R, ∃ q : Rw, q.ad = r.ad ∧ q.cap = r.cap ∧ q.zs.length = r.len ∧ Sl w q.ad q.cap q.zs) →
      ∃ rs : List Rw, rs.length = R.length ∧ (∀ q ∈ rs, Sl w q.ad q.cap q.zs) ∧ ∀ i, i < R.length → (rs.getD i default).ad = (R.getD i default).ad ∧ (rs.getD i default).cap = (R.getD i default).cap ∧ (rs.getD i default).zs.length = (R.getD i default).len := by
    intro R
    induction R with
    | nil => exact fun _ => ⟨[], rfl, fun q hq => (by cases hq), fun i hi => (by simp at hi)⟩
    | cons r R ih =>
      intro hk
      obtain ⟨q, q1, q2, q3, q4⟩ := hk r (by simp)
      obtain ⟨rs, h1, h2, h3⟩ := ih (fun r hr => hk r (by simp [hr]))
      refine ⟨q :: rs, by simp [h1], fun x hx => ?_, fun i hi => ?_⟩
      · rcases List.mem_cons.1 hx with rfl | hx
        · exact q4
        · exact h2 x hx
      · cases i with
        | zero => exact ⟨q1, q2, q3⟩
        | succ i => simpa using h3 i (by simpa using hi)
  obtain ⟨rs, h1, h2, h3⟩ := all R key
  refine ⟨rs, by rw [h1, h.len_], ?_, h2⟩
  rcases h.rd with e | ⟨b, off, e, hb, hc⟩
  · left
    cases rs with
    | nil => rfl
    | cons x l => rw [e] at h1; simp at h1
  · refine .inr ⟨b, off, e, hb, fun i hi => ?_⟩
    obtain ⟨a1, a2, a3⟩ := h3 i (by omega)
    rw [hc i (by omega), a1, a2, a3]
    rfl
/-- The turn that came in. -/
theorem tn_of {w : World} {a : Tu} (h : OkTu w a) : ∃ t : Tn, OkT w t ∧ tucells a = (encT t).toArray := by
  obtain ⟨s0, s1⟩ := bounds_u64 h.s
  obtain ⟨rs, h1, h2⟩ := ll_of h.er
  obtain ⟨ds, h3, h4, _⟩ := I64s.row_sl h.dr
  refine ⟨⟨a.s.toNat, a.er, a.erC, rs, a.dr, a.drC, ds⟩, ⟨by show a.s.toNat < _; omega, h2, h3⟩, ?_⟩
  unfold tucells encT
  rw [h1, h4]
  have : ((a.s.toNat : Nat) : Int) = a.s := by omega
  rw [this]
/-- Two of them side by side. -/
theorem two_turns (w : World) (t : Tn) : RdT (w.alloc (.cells #[.int .u64 (t.s : Int), .slice t.ea t.rs.length t.ec, .slice t.da t.ds.length t.dc, .int .u64 (t.s : Int), .slice t.ea t.rs.length t.ec, .slice t.da t.ds.length t.dc] 42)) (some ⟨w.heap.size, 0, none⟩) [t, t] :=
  (Rw.OwnS.rd encT_len (Rw.OwnS.lit (enc := encT) (k := 3) (e := 42) w [t, t] encT_len (by unfold maxLen; simp))).1
end Go.Proofs.YtkcjllkhmncfdaaDoor.Mnd
