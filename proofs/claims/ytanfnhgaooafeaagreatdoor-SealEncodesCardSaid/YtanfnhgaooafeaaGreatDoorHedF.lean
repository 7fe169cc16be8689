/- Are two packets the same (layer 9): the document's Same; the program's. -/
import Derived.Test.YtanfnhgaooafeaaGreatDoorHedX
namespace Go.Proofs.YtanfnhgaooafeaaGreatDoor.Hed
open Go.ChangeShapes Go.WideShapes Go.ChangeAt Go.RowKit Go.Deep
open Go.Proofs.YtanfnhgaooafeaaGreatDoor.Byt Go.Proofs.YtanfnhgaooafeaaGreatDoor.Key Go.Proofs.YtanfnhgaooafeaaGreatDoor.Buf
set_option linter.unusedVariables false
set_option linter.unusedSimpArgs false
/-- Are two packets the same? -/
def eqP (p q : Pk) : Bool := (p.kind == q.kind) && (eqK p.key q.key && ((p.hops == q.hops) && ((p.no == q.no) && ((p.to == q.to) && ((p.index == q.index) && ((p.total == q.total) && ((p.stamp == q.stamp) && ((p.value == q.value) && (strB p.body == strB q.body)))))))))
theorem str_self (l : List UInt8) : (strB l == strB l) = true := by rw [beq_toListBytes]; simp
theorem eqP_self (p : Pk) : eqP p p = true := by unfold eqP eqK; simp [str_self]
set_option maxRecDepth 100000 in
set_option maxHeartbeats 4000000 in
theorem rsame_any (p q : Pk) (w : World) (hp : RdB w p.ad p.body) (hq : RdB w q.ad q.body) :
    Calls Tryz.prog 12 #[pval p, pval q] w fun e w' => e = .returned (.bool (eqP p q)) ∧ Below w.heap.size w w' := by
  have HB : Hid (∀ o o', Below w.heap.size w ((w.alloc o).alloc o')) := Lib.hid (fun o o' => ((Below.refl _ _).alloc (Nat.le_refl _) o).alloc (by simp) o')
  have HS1 : Hid (∀ W, Below w.heap.size w W → (convert 25 9 (.slice p.ad p.body.length p.cap)).run Tryz.prog W = .ok (.string (strB p.body)) W) := Lib.hid (fun W hB => run_str_any (hp.below hB) rfl)
  have HS2 : Hid (∀ W, Below w.heap.size w W → (convert 25 9 (.slice q.ad q.body.length q.cap)).run Tryz.prog W = .ok (.string (strB q.body)) W) := Lib.hid (fun W hB => run_str_any (hq.below hB) rfl)
  clear hp hq
  unfold pval Pk.cells eqP
  obtain ⟨kind, ⟨t, f, s⟩, hops, no, to, index, total, stamp, value, ad, cap, body⟩ := p
  obtain ⟨kind', ⟨t', f', s'⟩, hops', no', to', index', total', stamp', value', ad', cap', body'⟩ := q
  simp only at HS1 HS2 ⊢
  have S1 := HS1.out _ (HB.out (.cells #[.int .i64 kind, .int .i64 t, .int .i64 f, .int .u32 s, .int .i64 hops, .int .i64 no, .int .i64 to, .int .i64 index, .int .i64 total, .int .i64 stamp, .int .i64 value, .slice ad body.length cap] 27) (.cells #[.int .i64 kind', .int .i64 t', .int .i64 f', .int .u32 s', .int .i64 hops', .int .i64 no', .int .i64 to', .int .i64 index', .int .i64 total', .int .i64 stamp', .int .i64 value', .slice ad' body'.length cap'] 27))
  have S2 := HS2.out _ (HB.out (.cells #[.int .i64 kind, .int .i64 t, .int .i64 f, .int .u32 s, .int .i64 hops, .int .i64 no, .int .i64 to, .int .i64 index, .int .i64 total, .int .i64 stamp, .int .i64 value, .slice ad body.length cap] 27) (.cells #[.int .i64 kind', .int .i64 t', .int .i64 f', .int .u32 s', .int .i64 hops', .int .i64 no', .int .i64 to', .int .i64 index', .int .i64 total', .int .i64 stamp', .int .i64 value', .slice ad' body'.length cap'] 27))
  clear HS1 HS2
  generalize strB body = sb at *
  generalize strB body' = sb' at *
  cases h0 : (kind == kind') with
  | false =>
    simp only [Bool.false_and, Bool.true_and, Bool.and_false]
    go_enter Tryz.func12, Tryz.ntmps12
    go_wp2_with fail
    go_ret
    exact ⟨rfl, HB.out _ _⟩
  | true =>
    cases h1 : eqK (t, f, s) (t', f', s') with
    | false =>
      simp only [Bool.false_and, Bool.true_and, Bool.and_false]
      go_enter Tryz.func12, Tryz.ntmps12
      go_wp2_with fail
      go_ret
      exact ⟨rfl, HB.out _ _⟩
    | true =>
      cases h2 : (hops == hops') with
      | false =>
        simp only [Bool.false_and, Bool.true_and, Bool.and_false]
        go_enter Tryz.func12, Tryz.ntmps12
        go_wp2_with fail
        go_ret
        exact ⟨rfl, HB.out _ _⟩
      | true =>
        cases h3 : (no == no') with
        | false =>
          simp only [Bool.false_and, Bool.true_and, Bool.and_false]
          go_enter Tryz.func12, Tryz.ntmps12
          go_wp2_with fail
          go_ret
          exact ⟨rfl, HB.out _ _⟩
        | true =>
          cases h4 : (to == to') with
          | false =>
            simp only [Bool.false_and, Bool.true_and, Bool.and_false]
            go_enter Tryz.func12, Tryz.ntmps12
            go_wp2_with fail
            go_ret
            exact ⟨rfl, HB.out _ _⟩
          | true =>
            cases h5 : (index == index') with
            | false =>
              simp only [Bool.false_and, Bool.true_and, Bool.and_false]
              go_enter Tryz.func12, Tryz.ntmps12
              go_wp2_with fail
              go_ret
              exact ⟨rfl, HB.out _ _⟩
            | true =>
              cases h6 : (total == total') with
              | false =>
                simp only [Bool.false_and, Bool.true_and, Bool.and_false]
                go_enter Tryz.func12, Tryz.ntmps12
                go_wp2_with fail
                go_ret
                exact ⟨rfl, HB.out _ _⟩
              | true =>
                cases h7 : (stamp == stamp') with
                | false =>
                  simp only [Bool.false_and, Bool.true_and, Bool.and_false]
                  go_enter Tryz.func12, Tryz.ntmps12
                  go_wp2_with fail
                  go_ret
                  exact ⟨rfl, HB.out _ _⟩
                | true =>
                  cases h8 : (value == value') with
                  | false =>
                    simp only [Bool.false_and, Bool.true_and, Bool.and_false]
                    go_enter Tryz.func12, Tryz.ntmps12
                    go_wp2_with fail
                    go_ret
                    exact ⟨rfl, HB.out _ _⟩
                  | true =>
                    cases h9 : (sb == sb') with
                    | false =>
                      simp only [Bool.false_and, Bool.true_and, Bool.and_false]
                      rw [beq_toListBytes] at h9
                      go_enter Tryz.func12, Tryz.ntmps12
                      go_wp2_with fail
                      go_ret
                      exact ⟨rfl, HB.out _ _⟩
                    | true =>
                      simp only [Bool.true_and, Bool.and_true]
                      rw [beq_toListBytes] at h9
                      go_enter Tryz.func12, Tryz.ntmps12
                      go_wp2_with fail
                      go_ret
                      exact ⟨rfl, HB.out _ _⟩
end Go.Proofs.YtanfnhgaooafeaaGreatDoor.Hed
