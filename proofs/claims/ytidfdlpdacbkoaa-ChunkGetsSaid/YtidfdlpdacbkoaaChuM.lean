/- Plain: when a chunk may be (layer 13). -/
import Derived.Test.YtidfdlpdacbkoaaPktA
namespace Go.Proofs.Ytidfdlpdacbkoaa.Chu
open Go.ChangeShapes Go.WideShapes Go.ChangeAt Go.RowKit Go.Deep
open Go.Proofs.Ytidfdlpdacbkoaa.Byt Go.Proofs.Ytidfdlpdacbkoaa.Key Go.Proofs.Ytidfdlpdacbkoaa.Buf Go.Proofs.Ytidfdlpdacbkoaa.Hed Go.Proofs.Ytidfdlpdacbkoaa.Dat Go.Proofs.Ytidfdlpdacbkoaa.BufM Go.Proofs.Ytidfdlpdacbkoaa.Pkt
set_option linter.unusedVariables false
set_option linter.unusedSimpArgs false
/-- Is it a node? -/
def ndOk (n : Int) : Bool := decide (0 ≤ n) && decide (n < 64)
/-- Is it one of so many? -/
def plOk (i t : Int) : Bool := decide (1 ≤ t) && (decide (t ≤ 255) && (decide (0 ≤ i) && decide (i < t)))
theorem ndOk_iff (n : Int) : ndOk n = true ↔ 0 ≤ n ∧ n < 64 := by
  unfold ndOk
  simp only [Bool.and_eq_true, decide_eq_true_eq]
theorem plOk_iff (i t : Int) : plOk i t = true ↔ 1 ≤ t ∧ t ≤ 255 ∧ 0 ≤ i ∧ i < t := by
  unfold plOk
  simp only [Bool.and_eq_true, decide_eq_true_eq]
/-- A chunk. -/
def chuP (k : Ky) (no to index total : Int) (ad : Option Addr) (cap : Nat) (body : List UInt8) : Pk := ⟨6, k, 1, no, to, index, total, 0, 0, ad, cap, body⟩
/-- May the packet be one? In the program's order. -/
def chuG (p : Pk) : Bool := (p.kind == 6) && (gd p && (noOk p.no && (ndOk p.to && (plOk p.index p.total && (decide ((p.body.length : Int) ≤ 64) && ((p.stamp == 0) && (p.value == 0)))))))
theorem chuG_iff (p : Pk) : chuG p = true ↔ p.kind = 6 ∧ gd p = true ∧ (0 ≤ p.no ∧ p.no ≤ 1152921504606846976) ∧ (0 ≤ p.to ∧ p.to < 64) ∧ (1 ≤ p.total ∧ p.total ≤ 255 ∧ 0 ≤ p.index ∧ p.index < p.total) ∧ p.body.length ≤ 64 ∧ p.stamp = 0 ∧ p.value = 0 := by
  unfold chuG
  simp only [Bool.and_eq_true, noOk_iff, ndOk_iff, plOk_iff, beq_iff_eq, decide_eq_true_eq]
  constructor
  · rintro ⟨h1, h2, h3, h4, h5, h6, h7, h8⟩
    exact ⟨h1, h2, h3, h4, h5, by omega, h7, h8⟩
  · rintro ⟨h1, h2, h3, h4, h5, h6, h7, h8⟩
    exact ⟨h1, h2, h3, h4, h5, by omega, h7, h8⟩
/-- In the document's order. -/
theorem chuG_b (p : Pk) : chuG p = ((p.kind == 6) && (gd p && ((p.stamp == 0) && ((p.value == 0) && (decide ((p.body.length : Int) ≤ 64) && (decide (0 ≤ p.no) && (decide (p.no ≤ 1152921504606846976) && (decide (0 ≤ p.to) && (decide (p.to < 64) && (decide (0 < p.total) && (decide (p.total < 256) && (decide (0 ≤ p.index) && decide (p.index < p.total))))))))))))) := by
  rw [Bool.eq_iff_iff, chuG_iff]
  simp only [Bool.and_eq_true, beq_iff_eq, decide_eq_true_eq]
  constructor
  · rintro ⟨h1, h2, ⟨h3, h3b⟩, ⟨h4, h4b⟩, ⟨h5, h5b, h5c, h5d⟩, h6, h7, h8⟩
    exact ⟨h1, h2, h7, h8, by omega, h3, h3b, h4, h4b, by omega, by omega, h5c, h5d⟩
  · rintro ⟨h1, h2, h7, h8, h6, h3, h3b, h4, h4b, h5, h5b, h5c, h5d⟩
    exact ⟨h1, h2, ⟨h3, h3b⟩, ⟨h4, h4b⟩, ⟨by omega, by omega, h5c, h5d⟩, by omega, h7, h8⟩
theorem row_one (kind t f q hops no to index total stamp value : Int) (ad : Option Addr) (n cap : Nat) : (#[.int .i64 kind, .int .i64 t, .int .i64 f, .int .u32 q, .int .i64 hops, .int .i64 no, .int .i64 to, .int .i64 index, .int .i64 total, .int .i64 stamp, .int .i64 value, .slice ad n cap] : Array Value).all (·.oneCell') = true := by simp [Value.oneCell']
/-- Do two belong together? -/
def mateB (a b : Pk) : Bool := chuG a && (chuG b && ((a.to == b.to) && ((a.no == b.no) && (a.total == b.total))))
end Go.Proofs.Ytidfdlpdacbkoaa.Chu
