/- Contracts of the document's own answers for layer 16: is it a node, are two linked. -/
import Derived.Test.YtlmdandgjapmjaaGrfF
namespace Go.Proofs.Ytlmdandgjapmjaa.Grf
open Go.ChangeShapes Go.WideShapes Go.ChangeAt Go.RowKit
set_option linter.unusedVariables false
set_option maxRecDepth 100000
/-- The document's graph, as a value. -/
def gcs (n : Int) (v : Value) : Array Value := #[.int .i64 n, v]
def gval (n : Int) (v : Value) : Value := .agg #[.int .i64 n, v]
theorem lk_take {L : List Pr} {k : Nat} {x y : Int} (h : lk (L.take k) x y = true) : lk L x y = true := by
  rw [lk_iff] at h ⊢
  rcases h with h | h
  · exact .inl (List.mem_of_mem_take h)
  · exact .inr (List.mem_of_mem_take h)
theorem gbox (w w0 : World) (n : Int) (v : Value) (h : w0 = w.alloc (.cells #[.int .i64 n, v] 27)) :
    Below w.heap.size w w0 ∧ w.heap.size < w0.heap.size ∧ Rw.Blk w0 w.heap.size 27 #[.int .i64 n, v] := by
  subst h
  exact ⟨(Below.refl _ _).alloc (Nat.le_refl _) _, by rw [World.size_alloc]; omega, Rw.Blk.new _ _ _⟩
set_option maxHeartbeats 4000000 in
theorem rlinked_any (n : Int) (ad : Option Addr) (len cap : Nat) (L : List Pr) (x y : Int) (w : World) (hlen : L.length = len) (hm : len < 9223372036854775807) (hr : RdG w ad L) :
    Calls Try.prog 20 #[gval n (.slice ad len cap), .int .i64 x, .int .i64 y] w fun e w' => e = .returned (.bool (lk L x y)) ∧ Below w.heap.size w w' := by
  have HL := Lib.hid hlen
  obtain ⟨w0, hw0⟩ : ∃ w0, Hid (w0 = w.alloc (.cells #[.int .i64 n, .slice ad len cap] 27)) := ⟨_, Lib.hid rfl⟩
  obtain ⟨hB0, hs0, hb0⟩ := gbox w w0 n _ hw0.out
  have HR := Lib.hid (hr.below hB0)
  have HB := Lib.hid hB0
  have c1 : w0.cell? ⟨w.heap.size, 1, none⟩ = some (.slice ad len cap) := hb0.cell 1
  clear hlen hr hB0 hs0 hb0
  unfold gval
  go_enter Try.func20, Try.ntmps20
  go_upto_region 1 with fail
  rw [← hw0.out]
  go_wp2_with fail
  go_loop [7] (fun i => ∃ k : Nat, k ≤ len ∧ i = .int .i64 k ∧ Hid (lk (L.take k) x y = false)) (fun i => len - (intOf i).toNat)
  case atStart => exact ⟨0, Nat.zero_le _, rfl, Lib.hid (by rw [List.take_zero]; rfl)⟩
  case round =>
    obtain ⟨k, hk, rfl, hq⟩ := hrel
    by_cases hlt : k < len
    · obtain ⟨bz, off, rfl, hbz, d0, d1⟩ := rd_at HR.out (i := k) (by rw [HL.out]; exact hlt)
      have HS : Hid (lk (L.take (k + 1)) x y = (((L.getD k (0, 0)).1 == x && (L.getD k (0, 0)).2 == y) || ((L.getD k (0, 0)).1 == y && (L.getD k (0, 0)).2 == x))) := Lib.hid (by rw [take_snoc (by rw [HL.out]; exact hlt), lk_snoc, hq.out, Bool.false_or])
      have HT := Lib.hid (fun h => lk_take (L := L) (k := k + 1) (x := x) (y := y) h)
      generalize L.getD k (0, 0) = p at *
      obtain ⟨a, b⟩ := p
      simp only at d0 d1 HS
      clear hq hbz
      obtain ⟨e1, h1⟩ : ∃ e1, (a == x) = e1 := ⟨_, rfl⟩
      obtain ⟨e2, h2⟩ : ∃ e2, (b == y) = e2 := ⟨_, rfl⟩
      obtain ⟨e3, h3⟩ : ∃ e3, (a == y) = e3 := ⟨_, rfl⟩
      obtain ⟨e4, h4⟩ : ∃ e4, (b == x) = e4 := ⟨_, rfl⟩
      rw [h1, h2, h3, h4] at HS
      obtain ⟨r, hr⟩ : ∃ r, lk (L.take (k + 1)) x y = r := ⟨_, rfl⟩
      rw [hr] at HS HT
      cases e1 with
      | false =>
        cases e3 with
        | false =>
          have HX := Lib.hid (hr.trans HS.out)
          clear HT HS hr
          go_wp2_with fail
          go_round
          case rel => exact ⟨k + 1, by omega, by go_num, Lib.hid (by rw [HX.out]; rfl)⟩
          case measure => simp [intOf]; omega
        | true =>
          cases e4 with
          | false =>
            have HX := Lib.hid (hr.trans HS.out)
            clear HT HS hr
            go_wp2_with fail
            go_round
            case rel => exact ⟨k + 1, by omega, by go_num, Lib.hid (by rw [HX.out]; rfl)⟩
            case measure => simp [intOf]; omega
          | true =>
            have HX := Lib.hid (HT.out (by rw [HS.out]; rfl))
            clear HT HS
            go_wp2_with fail
            go_ret
            exact ⟨Nodes.ret_bool HX.out.symm, HB.out⟩
      | true =>
        cases e2 with
        | false =>
          cases e3 with
          | false =>
            have HX := Lib.hid (hr.trans HS.out)
            clear HT HS hr
            go_wp2_with fail
            go_round
            case rel => exact ⟨k + 1, by omega, by go_num, Lib.hid (by rw [HX.out]; rfl)⟩
            case measure => simp [intOf]; omega
          | true =>
            cases e4 with
            | false =>
              have HX := Lib.hid (hr.trans HS.out)
              clear HT HS hr
              go_wp2_with fail
              go_round
              case rel => exact ⟨k + 1, by omega, by go_num, Lib.hid (by rw [HX.out]; rfl)⟩
              case measure => simp [intOf]; omega
            | true =>
              have HX := Lib.hid (HT.out (by rw [HS.out]; rfl))
              clear HT HS
              go_wp2_with fail
              go_ret
              exact ⟨Nodes.ret_bool HX.out.symm, HB.out⟩
        | true =>
          have HX := Lib.hid (HT.out (by rw [HS.out]; rfl))
          clear HT HS
          go_wp2_with fail
          go_ret
          exact ⟨Nodes.ret_bool HX.out.symm, HB.out⟩
    · obtain rfl : k = len := by omega
      have HX : Hid (lk L x y = false) := Lib.hid (by have := hq.out; rwa [List.take_of_length_le (by rw [HL.out]; exact Nat.le_refl _)] at this)
      go_wp2_with fail
      go_ret
      exact ⟨Nodes.ret_bool HX.out.symm, HB.out⟩
end Go.Proofs.Ytlmdandgjapmjaa.Grf
