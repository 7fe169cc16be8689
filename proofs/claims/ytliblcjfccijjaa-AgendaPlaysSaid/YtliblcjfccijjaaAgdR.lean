/- The document's own answers for layer agenda (8): things in memory; New, First. -/
import Derived.Test.YtliblcjfccijjaaAgdA
import Derived.Test.YtliblcjfccijjaaProg
import Derived.WalkKit
import Derived.ProofKit
import Derived.OpenShut
import Derived.Below
import Derived.Lib.Hide
import Derived.Lib.Small
import Derived.TacticsInMore
import Derived.Handy
import Derived.OwnWalkIn
import Derived.Deep.QuietTactic
import Derived.BigQuiet
import Derived.Deep.Cut
import Derived.Deep.RegionHeld3
import Derived.Deep.RegionHeldLaw
namespace Go.Proofs.Ytliblcjfccijjaa.AgdR
open Go.ChangeShapes Go.WideShapes Go.ChangeAt Go.RowKit
open Go.Proofs.Ytliblcjfccijjaa.Rw Go.Proofs.Ytliblcjfccijjaa.Agd
set_option linter.unusedVariables false
set_option linter.unusedSimpArgs false
theorem box_below (w : World) (o : Obj) : Below w.heap.size w (w.alloc o) := (Below.refl _ _).alloc (Nat.le_refl _) o
def encW (t : Th) : List Value := [.int .i64 t.due, .int .i64 t.x]
theorem encW_len (t : Th) : (encW t).length = 2 := rfl
theorem encW_one (t : Th) : ∀ v ∈ encW t, v.oneCell' = true := fun v hv => by simp [encW] at hv; rcases hv with rfl | rfl <;> rfl
abbrev RdR (w : World) (ad : Option Addr) (d : List Th) : Prop := Rw.Rd encW 2 w ad d
abbrev OwnR (w : World) (base : Nat) (v : Value) (d : List Th) : Prop := Rw.OwnS encW 2 73 w base v d
theorem at2 {w : World} {b o : Nat} {r : Th} (h : Rw.At encW w b o r) : w.cell? ⟨b, o, none⟩ = some (.int .i64 r.due) ∧ w.cell? ⟨b, o + 1, none⟩ = some (.int .i64 r.x) := ⟨h 0 _ rfl, h 1 _ rfl⟩
theorem infoW : (Try.prog.info? 73).map (fun i => (i.zero, i.size, i.bytes)) = some (some (.agg #[.int .i64 0, .int .i64 0]), 2, 16) := by kernel_rfl
/-- The document's agenda, as a value. -/
def aval (ad : Option Addr) (n cap : Nat) (most : Int) : Value := .agg #[.slice ad n cap, .int .i64 most]
theorem rnew_any (m : Int) (w : World) :
    Calls Try.prog 29 #[.int .i64 m] w fun e w' => e = .returned (aval none 0 0 (min (max m 0) 65536)) ∧ Below w.heap.size w w' := by
  have HB : Hid (∀ o, Below w.heap.size w (w.alloc o)) := Lib.hid (fun o => box_below w o)
  go_enter Try.func29, Try.ntmps29
  go_wp2_with fail
  go_returns
  exact ⟨rfl, HB.out _⟩
/-- Where the first one stands. -/
def fiI (l : List Th) : Int := if l = [] then -1 else (fi l : Nat)
def atI (l : List Th) (j : Nat) : Int := if j = 0 then -1 else (fiN l j : Nat)
set_option maxHeartbeats 1000000 in
theorem rfirst_any (ad : Option Addr) (n cap : Nat) (most : Int) (d : List Th) (w : World) (hn : d.length = n) (hm : n ≤ 1000000) (hr : RdR w ad d) :
    Calls Try.prog 36 #[aval ad n cap most] w fun e w' => e = .returned (.int .i64 (fiI d)) ∧ Below w.heap.size w w' := by
  have HL := Lib.hid hn
  have HR := Lib.hid hr
  obtain ⟨w0, hw0⟩ : ∃ w0, Hid (w0 = w.alloc (.cells #[.slice ad n cap, .int .i64 most] 57)) := ⟨_, Lib.hid rfl⟩
  have hB0 : Below w.heap.size w w0 := by rw [hw0.out]; exact box_below _ _
  have b0 : Blk w0 w.heap.size 57 #[.slice ad n cap, .int .i64 most] := by rw [hw0.out]; exact Blk.new w _ _
  have HB0 := Lib.hid hB0
  have HB1 : Hid (∀ wr, Below w0.heap.size w0 wr → wr.cell? ⟨w.heap.size, 0, none⟩ = some (.slice ad n cap)) := Lib.hid (fun wr hB => (b0.below hB).cell 0)
  have HF : Hid (∀ j, j < n → atI d (j + 1) = if 0 < j ∧ ¬ (gt d j).due < (gt d (fiN d j)).due then ((fiN d j : Nat) : Int) else ((j : Nat) : Int)) := Lib.hid (fun j hj => by
    unfold atI
    rw [if_neg (by omega), show fiN d (j + 1) = if (gt d j).due < (gt d (fiN d j)).due then j else fiN d j from rfl]
    by_cases h0 : j = 0
    · subst h0; simp [fiN]
    · by_cases h1 : (gt d j).due < (gt d (fiN d j)).due
      · rw [if_pos h1, if_neg (fun h => h.2 h1)]
      · rw [if_neg h1, if_pos ⟨by omega, h1⟩])
  have HE : Hid (atI d n = fiI d) := Lib.hid (by unfold atI fiI fi; rw [← hn]; by_cases h : d = [] <;> simp [h])
  clear hn hr b0 hB0
  unfold aval
  go_enter Try.func36, Try.ntmps36
  go_wp2_with fail
  rw [← hw0.out]
  go_loopw [3, 4] (fun a i wr => ∃ j : Nat, j ≤ n ∧ i = .int .i64 j ∧ a = .int .i64 (atI d j) ∧ Hid (Below w0.heap.size w0 wr)) (fun _ i _ => n - (intOf i).toNat)
  case atStart => exact ⟨0, Nat.zero_le _, rfl, rfl, Lib.hid (Below.refl _ _)⟩
  case round =>
    obtain ⟨j, hj, rfl, rfl, hB⟩ := hrel
    have HBw : Hid (Below w.heap.size w wr) := Lib.hid (HB0.out.trans (hB.out.mono HB0.out.size))
    have z0 := HB1.out wr hB.out
    by_cases hlt : j < n
    · have HFj := Lib.hid (HF.out j hlt)
      obtain ⟨b, off, rfl, -, hc⟩ := (HR.out.below HBw.out).at_ (i := j) (by rw [HL.out]; exact hlt)
      obtain ⟨c0, -⟩ := at2 hc
      by_cases h0 : j = 0
      · subst h0
        rw [show atI d 0 = -1 from rfl]
        have HFk : Hid (atI d 1 = 0) := Lib.hid (by have := HFj.out; simpa using this)
        clear HFj c0 hc
        go_wp2_with fail
        go_quiet (fail)
        go_wp2_with fail
        go_roundw
        case rel => exact ⟨1, by omega, rfl, by rw [HFk.out]; rfl, Lib.hid (Own.below_drewN hB.out _)⟩
        case measure => simp [intOf]; omega
      · have hfl := fiN_lt d j (by omega)
        have ha : atI d j = (fiN d j : Nat) := if_neg h0
        obtain ⟨b2, off2, e2, -, hc2⟩ := (HR.out.below HBw.out).at_ (i := fiN d j) (by rw [HL.out]; omega)
        obtain ⟨a0, -⟩ := at2 hc2
        simp only [Option.some.injEq, Addr.mk.injEq, and_true] at e2
        obtain ⟨rfl, rfl⟩ := e2
        rw [ha]
        clear hc hc2 ha
        have H0 : Hid (0 < j) := Lib.hid (by omega)
        change wr.cell? ⟨b, off + j * 2, none⟩ = some (.int .i64 (gt d j).due) at c0
        change wr.cell? ⟨b, off + fiN d j * 2, none⟩ = some (.int .i64 (gt d (fiN d j)).due) at a0
        generalize (gt d j).due = x at *
        generalize hf : fiN d j = f at *
        generalize (gt d f).due = y at *
        clear hf h0
        by_cases hxy : x < y
        · have HFk : Hid (atI d (j + 1) = j) := Lib.hid (by rw [HFj.out, if_neg (fun h => absurd h.2 (by omega))])
          clear HFj
          go_wp2_with fail
          have h5 : decide ((f : Int) < 0) = false := by simp
          go_quiet (fail)
          go_wp2_with fail
          go_roundw
          case rel => exact ⟨j + 1, by omega, by go_num, by rw [HFk.out], Lib.hid (Own.below_drewN hB.out _)⟩
          case measure => simp [intOf]; omega
        · have HFk : Hid (atI d (j + 1) = f) := Lib.hid (by rw [HFj.out, if_pos ⟨H0.out, by omega⟩])
          clear HFj
          go_wp2_with fail
          have h5 : decide ((f : Int) < 0) = false := by simp
          go_quiet (fail)
          go_wp2_with fail
          go_roundw
          case rel => exact ⟨j + 1, by omega, by go_num, by rw [HFk.out], Lib.hid (Own.below_drewN hB.out _)⟩
          case measure => simp [intOf]; omega
    · obtain rfl : j = n := by omega
      rw [HE.out]
      go_wp2_with fail
      go_ret
      exact ⟨rfl, HBw.out⟩
end Go.Proofs.Ytliblcjfccijjaa.AgdR
