/- A packet's way that came in (layer 19's law): how long each link takes, what is wrong in each tick. -/
import Derived.Test.YtlmdandgjapmjaaHopA
import Derived.Deep.Slices
import Derived.Deep.Fields
import Derived.OpenShut
import Derived.Deep.WholeRow
namespace Go.Proofs.Ytlmdandgjapmjaa.Hop
open Go.ChangeShapes Go.WideShapes Go.ChangeAt Go.RowKit Go.Deep
set_option linter.unusedVariables false
/-- A slice of integers of some kind, as it came in. -/
def RowK (k : IntKind) (w : World) (a : Option Addr) (len cap : Nat) (zs : List Int) : Prop :=
  (a = none ∧ len = 0 ∧ cap = 0 ∧ zs = []) ∨
  ∃ x, a = some x ∧ len ≤ cap ∧ cap ≤ maxLen ∧ zs.length = cap ∧ (∀ i, i < zs.length → w.cell? (x.add i) = some (.int k (zs.getD i 0))) ∧ ∀ n ∈ zs, (Lit.int k n).wf = true
/-- One of its elements. -/
theorem RowK.at {k : IntKind} {w : World} {a : Option Addr} {len cap : Nat} {zs : List Int} (h : RowK k w a len cap zs) {i : Nat} (hi : i < len) :
    ∃ b off, a = some ⟨b, off, none⟩ ∧ (∀ W, Below w.heap.size w W → W.cell? ⟨b, off + i, none⟩ = some (.int k (zs.getD i 0))) ∧ (Lit.int k (zs.getD i 0)).wf = true := by
  rcases h with ⟨_, rfl, _, _⟩ | ⟨x, rfl, hl, hm, hz, hcell, hwf⟩
  · omega
  · obtain ⟨b, off, rfl, hc⟩ := ints_at hcell (by omega)
    have h1 := hc i (by first | assumption | omega)
    refine ⟨b, off, rfl, fun W hB => ?_, ?_⟩
    · refine (hB.cell (p := ⟨b, off + i, none⟩) ?_).trans h1
      by_cases hb : b < w.heap.size
      · exact hb
      · rw [World.cell?, Array.getElem?_eq_none (show w.heap.size ≤ b by omega)] at h1
        simp at h1
    · have hi2 : i < zs.length := by omega
      have e : zs.getD i 0 = zs[i] := by simp [List.getD, hi2]
      rw [e]
      exact hwf _ (List.getElem_mem hi2)
theorem RowK.len {k : IntKind} {w : World} {a : Option Addr} {len cap : Nat} {zs : List Int} (h : RowK k w a len cap zs) : len ≤ cap ∧ cap ≤ maxLen := by
  rcases h with ⟨_, rfl, rfl, _⟩ | ⟨x, rfl, hl, hm, _⟩
  · exact ⟨Nat.le_refl _, by unfold maxLen; omega⟩
  · exact ⟨hl, hm⟩
structure Wy where
  d0 : Int
  d1 : Int
  rho : Int
  la : Option Addr
  ll : Nat
  lc : Nat
  ls : List Int
  wa : Option Addr
  wl : Nat
  wc : Nat
  ws : List Int
def wyval (a : Wy) : Value := .agg #[.int .u8 a.d0, .int .u8 a.d1, .int .u8 a.rho, .slice a.la a.ll a.lc, .slice a.wa a.wl a.wc]
structure OkY (w : World) (a : Wy) : Prop where
  d0 : 0 ≤ a.d0 ∧ a.d0 ≤ 255
  d1 : 0 ≤ a.d1 ∧ a.d1 ≤ 255
  rho : 0 ≤ a.rho ∧ a.rho ≤ 255
  links : RowK .u8 w a.la a.ll a.lc a.ls
  wrong : RowK .i8 w a.wa a.wl a.wc a.ws
section
variable {H : Type} {enc0 : TypeId × Value → H} {w : World}
theorem cellsWay : Try.prog.cellsOf 49 = 5 := by kernel_rfl
set_option maxRecDepth 100000 in
theorem open_way {r : Reach} {b0 : Nat} {v : Value} {d : DataW H} {pl : List MemPlace} (hv : Value.okWide Try.prog w r b0 49 v) (h : DataW.Trod enc0 Try.prog w 0 (fun _ => true) true 49 v d pl) : ∃ a : Wy, v = wyval a ∧ OkY w a := by
  obtain ⟨cs, rfl, hs⟩ := okWide_struct Try.underlying49 hv
  obtain ⟨n, hn⟩ := h
  obtain ⟨ys, n', _, _, hlen, hys, hf⟩ := DataW.trod_struct Try.underlying49 hn
  rw [cellsWay] at hlen
  obtain ⟨cs⟩ := cs
  match cs, hlen, ys, hys with
  | [c0, c1, c2, c3, c4], _, [y0, y1, y2, y3], _ =>
    have h0 : DataW.trod enc0 Try.prog w 0 (fun _ => true) true n' 45 (([c0, c1, c2, c3, c4].drop 0).take (Try.prog.cellsOf 45)) = some y0 := hf 0 _ rfl
    rw [show Try.prog.cellsOf 45 = 2 from by kernel_rfl] at h0
    simp only [List.drop_zero, List.take_succ_cons, List.take_zero] at h0
    have h1 : DataW.trod enc0 Try.prog w 0 (fun _ => true) true n' 5 (([c0, c1, c2, c3, c4].drop 2).take (Try.prog.cellsOf 5)) = some y1 := hf 1 _ rfl
    rw [show Try.prog.cellsOf 5 = 1 from by kernel_rfl] at h1
    simp only [List.drop_succ_cons, List.drop_zero, List.take_succ_cons, List.take_zero] at h1
    have h2 : DataW.trod enc0 Try.prog w 0 (fun _ => true) true n' 46 (([c0, c1, c2, c3, c4].drop 3).take (Try.prog.cellsOf 46)) = some y2 := hf 2 _ rfl
    rw [show Try.prog.cellsOf 46 = 1 from by kernel_rfl] at h2
    simp only [List.drop_succ_cons, List.drop_zero, List.take_succ_cons, List.take_zero] at h2
    have h3 : DataW.trod enc0 Try.prog w 0 (fun _ => true) true n' 47 (([c0, c1, c2, c3, c4].drop 4).take (Try.prog.cellsOf 47)) = some y3 := hf 3 _ rfl
    rw [show Try.prog.cellsOf 47 = 1 from by kernel_rfl] at h3
    simp only [List.drop_succ_cons, List.drop_zero, List.take_succ_cons, List.take_zero] at h3
    obtain ⟨xs, m', _, _, hlx, hxs, hx⟩ := DataW.trod_array Try.underlying45 h0
    rw [show Try.prog.cellsOf 5 = 1 from by kernel_rfl] at hx
    match xs, hxs with
    | [x0, x1], _ =>
      have g0 : DataW.trod enc0 Try.prog w 0 (fun _ => true) true m' 5 [c0] = some x0 := hx 0 (by omega)
      have g1 : DataW.trod enc0 Try.prog w 0 (fun _ => true) true m' 5 [c1] = some x1 := hx 1 (by omega)
      obtain ⟨p, e0, _, w0⟩ := DataW.trod_int Try.underlying5 g0
      obtain ⟨q, e1, _, w1⟩ := DataW.trod_int Try.underlying5 g1
      obtain ⟨t, e2, _, w2⟩ := DataW.trod_int Try.underlying5 h1
      have hsl : ∃ (a : Option Addr) (len cap : Nat) (zs : List Int), c3 = .slice a len cap ∧ RowK .u8 w a len cap zs := by
        rcases open_ints Try.underlying46 Try.underlying5 (by kernel_rfl) h2 with ⟨hcs, _⟩ | ⟨x, l, c, zs, hcs, _, hl, hm, hz, _, hcell, hwz⟩
        · exact ⟨none, 0, 0, [], by simpa using hcs, .inl ⟨rfl, rfl, rfl, rfl⟩⟩
        · exact ⟨some x, l, c, zs, by simpa using hcs, .inr ⟨x, rfl, hl, hm, by simpa using hz, hcell, hwz⟩⟩
      have hsw : ∃ (a : Option Addr) (len cap : Nat) (zs : List Int), c4 = .slice a len cap ∧ RowK .i8 w a len cap zs := by
        rcases open_ints Try.underlying47 Try.underlying50 (by kernel_rfl) h3 with ⟨hcs, _⟩ | ⟨x, l, c, zs, hcs, _, hl, hm, hz, _, hcell, hwz⟩
        · exact ⟨none, 0, 0, [], by simpa using hcs, .inl ⟨rfl, rfl, rfl, rfl⟩⟩
        · exact ⟨some x, l, c, zs, by simpa using hcs, .inr ⟨x, rfl, hl, hm, by simpa using hz, hcell, hwz⟩⟩
      obtain ⟨la, ll, lc, ls, rfl, hl⟩ := hsl
      obtain ⟨wa, wl, wc, ws, rfl, hw⟩ := hsw
      simp only [List.cons.injEq, and_true] at e0 e1 e2
      subst e0 e1 e2
      obtain ⟨p0, p1⟩ := bounds_u8 w0
      obtain ⟨q0, q1⟩ := bounds_u8 w1
      obtain ⟨t0, t1⟩ := bounds_u8 w2
      exact ⟨⟨p, q, t, la, ll, lc, ls, wa, wl, wc, ws⟩, rfl, ⟨⟨p0, by simp only; omega⟩, ⟨q0, by simp only; omega⟩, ⟨t0, by simp only; omega⟩, hl, hw⟩⟩
end
/-- The way's box. -/
theorem way_box (w w0 : World) (a : Wy) (h : w0 = w.alloc (.cells #[.int .u8 a.d0, .int .u8 a.d1, .int .u8 a.rho, .slice a.la a.ll a.lc, .slice a.wa a.wl a.wc] 49)) :
    Below w.heap.size w w0 ∧ ∀ W, Below w0.heap.size w0 W → W.cell? ⟨w.heap.size, 0, none⟩ = some (.int .u8 a.d0) ∧ W.cell? ⟨w.heap.size, 1, none⟩ = some (.int .u8 a.d1) ∧ W.cell? ⟨w.heap.size, 2, none⟩ = some (.int .u8 a.rho) ∧ W.cell? ⟨w.heap.size, 3, none⟩ = some (.slice a.la a.ll a.lc) ∧ W.cell? ⟨w.heap.size, 4, none⟩ = some (.slice a.wa a.wl a.wc) := by
  subst h
  refine ⟨(Below.refl _ _).alloc (Nat.le_refl _) _, fun W hB => ?_⟩
  have hs : w.heap.size < (w.alloc (.cells #[.int .u8 a.d0, .int .u8 a.d1, .int .u8 a.rho, .slice a.la a.ll a.lc, .slice a.wa a.wl a.wc] 49)).heap.size := by rw [World.size_alloc]; omega
  have hb := (hB.block w.heap.size hs).trans (heap_alloc_last w _)
  exact ⟨by rw [cell_of_row W _ 0 _ _ _ hb]; rfl, by rw [cell_of_row W _ 1 _ _ _ hb]; rfl, by rw [cell_of_row W _ 2 _ _ _ hb]; rfl, by rw [cell_of_row W _ 3 _ _ _ hb]; rfl, by rw [cell_of_row W _ 4 _ _ _ hb]; rfl⟩
theorem tmod_two (z r : Int) (h : 0 ≤ r) : -r ≤ z.tmod (r + 1) ∧ z.tmod (r + 1) ≤ r := by
  have h1 := Int.tmod_lt_of_pos z (show 0 < r + 1 by omega)
  have h2 := Int.lt_tmod_of_pos z (show 0 < r + 1 by omega)
  omega
theorem tmod_one (z r : Int) (hz : 0 ≤ z) (h : 0 ≤ r) : 0 ≤ z.tmod (r + 1) ∧ z.tmod (r + 1) ≤ r :=
  ⟨Int.tmod_nonneg _ hz, (tmod_two z r h).2⟩
/-- A link more. -/
theorem link_more {k : Nat} {x y T r : Int} (h0 : (k : Int) * x ≤ T) (h1 : T ≤ (k : Int) * y) (r0 : 0 ≤ r) (r1 : r ≤ y - x) : ((k + 1 : Nat) : Int) * x ≤ T + (x + r) ∧ T + (x + r) ≤ ((k + 1 : Nat) : Int) * y := by
  rw [Int.natCast_add, Int.natCast_one, Int.add_mul, Int.add_mul, Int.one_mul, Int.one_mul]
  omega
/-- A tick more. -/
theorem tick_more {k : Nat} {r g d : Int} (h0 : 1024 * (k : Int) - r * k ≤ g) (h1 : g ≤ 1024 * (k : Int) + r * k) (d0 : -r ≤ d) (d1 : d ≤ r) : 1024 * ((k + 1 : Nat) : Int) - r * ((k + 1 : Nat) : Int) ≤ g + (1024 + d) ∧ g + (1024 + d) ≤ 1024 * ((k + 1 : Nat) : Int) + r * ((k + 1 : Nat) : Int) := by
  rw [Int.natCast_add, Int.natCast_one, Int.mul_add r, Int.mul_one]
  generalize r * (k : Int) = u at *
  omega
end Go.Proofs.Ytlmdandgjapmjaa.Hop
