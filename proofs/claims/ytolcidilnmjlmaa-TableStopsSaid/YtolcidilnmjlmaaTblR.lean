/- The document's own answers for layer table (7): rows in memory; New, At. -/
import Derived.Test.YtolcidilnmjlmaaTblM
import Derived.Test.YtolcidilnmjlmaaRowB
import Derived.Test.YtolcidilnmjlmaaKeyF
import Derived.Handy
import Derived.Deep.QuietTactic
import Derived.BigQuiet
namespace Go.Proofs.Ytolcidilnmjlmaa.TblR
open Go.ChangeShapes Go.WideShapes Go.ChangeAt Go.RowKit
open Go.Proofs.Ytolcidilnmjlmaa.Key Go.Proofs.Ytolcidilnmjlmaa.Rw Go.Proofs.Ytolcidilnmjlmaa.Tbl
set_option linter.unusedVariables false
set_option linter.unusedSimpArgs false
def encW (r : Row) : List Value := [.int .i64 r.1.1, .int .i64 r.1.2.1, .int .u32 r.1.2.2, .int .i64 r.2]
def wval (r : Row) : Value := .agg #[.int .i64 r.1.1, .int .i64 r.1.2.1, .int .u32 r.1.2.2, .int .i64 r.2]
theorem encW_len (r : Row) : (encW r).length = 4 := rfl
theorem encW_one (r : Row) : ∀ v ∈ encW r, v.oneCell' = true := fun v hv => by simp [encW] at hv; rcases hv with rfl | rfl | rfl | rfl <;> rfl
abbrev RdR (w : World) (ad : Option Addr) (d : List Row) : Prop := Rw.Rd encW 4 w ad d
abbrev OwnR (w : World) (base : Nat) (v : Value) (d : List Row) : Prop := Rw.OwnS encW 4 63 w base v d
theorem at4 {w : World} {b o : Nat} {r : Row} (h : Rw.At encW w b o r) : w.cell? ⟨b, o, none⟩ = some (.int .i64 r.1.1) ∧ w.cell? ⟨b, o + 1, none⟩ = some (.int .i64 r.1.2.1) ∧ w.cell? ⟨b, o + 2, none⟩ = some (.int .u32 r.1.2.2) ∧ w.cell? ⟨b, o + 3, none⟩ = some (.int .i64 r.2) := ⟨h 0 _ rfl, h 1 _ rfl, h 2 _ rfl, h 3 _ rfl⟩
theorem infoRow : (Try.prog.info? 63).map (fun i => (i.zero, i.size, i.bytes)) = some (some (.agg #[.int .i64 0, .int .i64 0, .int .u32 0, .int .i64 0]), 4, 32) := by kernel_rfl
/-- The document's table, as a value. -/
def tval (ad : Option Addr) (n cap : Nat) (most : Int) : Value := .agg #[.slice ad n cap, .int .i64 most]
def rowR (d : List Row) (i : Nat) : Row := d.getD i default
/-- Where a key stands; -1: nowhere. -/
def atR (d : List Row) (k : Ky) : Int := if (lookR d k).isSome then ((keys d).findIdx (fun y => decide (y = k)) : Nat) else -1
theorem rnew_any (m : Int) (w : World) :
    Calls Try.prog 8 #[.int .i64 m] w fun e w' => e = .returned (tval none 0 0 (min (max m 0) 65536)) ∧ Below w.heap.size w w' := by
  have HB : Hid (∀ o, Below w.heap.size w (w.alloc o)) := Lib.hid (fun o => box_below w o)
  go_enter Try.func8, Try.ntmps8
  go_wp2_with fail
  go_returns
  exact ⟨rfl, HB.out _⟩
/-- The value of a first one. -/
theorem atR_hit {d : List Row} {k : Ky} {i : Nat} (hi : i < d.length) (hno : ∀ j, j < i → eqK (rowR d j).1 k = false) (h : eqK (rowR d i).1 k = true) : atR d k = (i : Int) := by
  have hk : ∀ j, j < d.length → (keys d)[j]? = some (rowR d j).1 := fun j hj => by simp [keys, rowR, List.getD, hj]
  have hm : k ∈ keys d := by
    unfold eqK at h
    rw [decide_eq_true_iff] at h
    rw [← h]
    exact List.mem_of_getElem? (hk i hi)
  obtain ⟨v, hv⟩ := lookR_some hm
  unfold atR
  rw [hv, Option.isSome_some, if_pos rfl]
  congr 1
  have hl : i < (keys d).length := by rw [keys_len]; exact hi
  rw [List.findIdx_eq hl]
  have hg : ∀ j (hj : j < (keys d).length), (keys d)[j] = (rowR d j).1 := fun j hj => by
    have := hk j (by rw [← keys_len]; exact hj)
    rw [List.getElem?_eq_getElem hj] at this
    exact Option.some.inj this
  refine ⟨?_, fun j hj => ?_⟩
  · rw [hg i hl]; exact h
  · rw [hg j (by omega)]; exact hno j hj
theorem atR_miss {d : List Row} {k : Ky} (hno : ∀ j, j < d.length → eqK (rowR d j).1 k = false) : atR d k = -1 := by
  have : lookR d k = none := by
    rw [lookR_none]
    intro hm
    obtain ⟨j, hj, e⟩ := List.getElem_of_mem hm
    rw [keys_len] at hj
    have := hno j hj
    unfold eqK at this
    rw [decide_eq_false_iff_not] at this
    refine this ?_
    rw [← e]
    simp [keys, rowR, List.getD, hj]
  unfold atR
  rw [this]; rfl
theorem rat_any (ad : Option Addr) (n cap : Nat) (most : Int) (d : List Row) (k : Ky) (w : World) (hn : d.length = n) (hm : n ≤ 1000000) (hr : RdR w ad d) :
    Calls Try.prog 25 #[tval ad n cap most, kval k] w fun e w' => e = .returned (.int .i64 (atR d k)) ∧ Below w.heap.size w w' := by
  have HL := Lib.hid hn
  have HR := Lib.hid hr
  obtain ⟨w0, hw0⟩ : ∃ w0, Hid (w0 = (w.alloc (.cells #[.slice ad n cap, .int .i64 most] 27)).alloc (.cells #[.int .i64 k.1, .int .i64 k.2.1, .int .u32 k.2.2] 34)) := ⟨_, Lib.hid rfl⟩
  have hB0 : Below w.heap.size w w0 := by rw [hw0.out]; exact (box_below _ _).alloc (by simp) _
  have hsz : w0.heap.size = w.heap.size + 2 := by rw [hw0.out, World.size_alloc, World.size_alloc]
  have b0 : Blk w0 w.heap.size 27 #[.slice ad n cap, .int .i64 most] := by rw [hw0.out]; exact (Blk.new w _ _).alloc _
  have b1 : Blk w0 (w.heap.size + 1) 34 #[.int .i64 k.1, .int .i64 k.2.1, .int .u32 k.2.2] := by
    rw [hw0.out]
    have := Blk.new (w.alloc (.cells #[.slice ad n cap, .int .i64 most] 27)) 34 #[.int .i64 k.1, .int .i64 k.2.1, .int .u32 k.2.2]
    rw [World.size_alloc] at this
    exact this
  have HB0 := Lib.hid hB0
  have HB1 : Hid (∀ wr, Below w0.heap.size w0 wr → wr.cell? ⟨w.heap.size, 0, none⟩ = some (.slice ad n cap) ∧ wr.cell? ⟨w.heap.size + 1, 0, none⟩ = some (.int .i64 k.1) ∧ wr.cell? ⟨w.heap.size + 1, 1, none⟩ = some (.int .i64 k.2.1) ∧ wr.cell? ⟨w.heap.size + 1, 2, none⟩ = some (.int .u32 k.2.2)) := Lib.hid (fun wr hB => by
    have b0' := b0.below hB
    have b1' := b1.below hB
    exact ⟨b0'.cell 0, b1'.cell 0, b1'.cell 1, b1'.cell 2⟩)
  have HY : Hid (∀ i, i < n → (∀ j, j < i → eqK (rowR d j).1 k = false) → eqK (rowR d i).1 k = true → atR d k = (i : Int)) := Lib.hid (fun i hi h1 h2 => atR_hit (by omega) h1 h2)
  have HN : Hid ((∀ j, j < n → eqK (rowR d j).1 k = false) → atR d k = -1) := Lib.hid (fun h => atR_miss (by rw [hn]; exact h))
  generalize atR d k = r at *
  clear hn hr b0 b1 hB0
  obtain ⟨p, q, s⟩ := k
  unfold kval tval
  simp only at HB1 hw0
  go_enter Try.func25, Try.ntmps25
  go_wp2_with fail
  rw [← hw0.out]
  go_loopw [5] (fun i wr => ∃ j : Nat, j ≤ n ∧ i = .int .i64 j ∧ Hid (Below w0.heap.size w0 wr) ∧ Hid (∀ t, t < j → eqK (rowR d t).1 (p, q, s) = false)) (fun i _ => n - (intOf i).toNat)
  case atStart => exact ⟨0, Nat.zero_le _, rfl, Lib.hid (Below.refl _ _), Lib.hid (fun i hi => by omega)⟩
  case round =>
    obtain ⟨j, hj, rfl, hB, hno⟩ := hrel
    have HBw : Hid (Below w.heap.size w wr) := Lib.hid (HB0.out.trans (hB.out.mono HB0.out.size))
    obtain ⟨z0, d0, d1, d2⟩ := HB1.out wr hB.out
    by_cases hlt : j < n
    · obtain ⟨b, off, rfl, -, hc⟩ := (HR.out.below HBw.out).at_ (i := j) (by rw [HL.out]; exact hlt)
      obtain ⟨c0, c1, c2, c3⟩ := at4 hc
      have HE := Lib.hid hno.out
      have HYj := Lib.hid (HY.out j hlt hno.out)
      have hrj : d.getD j default = rowR d j := rfl
      rw [hrj] at c0 c1 c2 c3
      clear hc hrj
      generalize hy : rowR d j = y at *
      have hy' := Lib.hid hy
      obtain ⟨⟨a, b', c⟩, v⟩ := y
      simp only at c0 c1 c2 c3 HYj
      clear hy
      by_cases he : eqK (a, b', c) (p, q, s) = true
      · have hr' := HYj.out he
        subst hr'
        clear HN HYj hno HY
        go_wp2_with fail
        go_quiet (fail)
        go_wp2_with fail
        go_ret
        exact ⟨rfl, Own.below_drewN HBw.out _⟩
      · have he' : eqK (a, b', c) (p, q, s) = false := by simpa using he
        clear he HYj
        go_wp2_with fail
        go_quiet (fail)
        go_wp2_with fail
        go_roundw
        case rel =>
          refine ⟨j + 1, by omega, by go_num, Lib.hid (Own.below_drewN hB.out _), Lib.hid (fun i hi => ?_)⟩
          rcases Nat.lt_succ_iff_lt_or_eq.1 hi with h | rfl
          · exact HE.out i h
          · rw [hy'.out]; exact he'
        case measure => simp [intOf]; omega
    · obtain rfl : j = n := by omega
      have hr' := HN.out hno.out
      subst hr'
      clear HY hno
      go_wp2_with fail
      go_ret
      exact ⟨rfl, HBw.out⟩
end Go.Proofs.Ytolcidilnmjlmaa.TblR
