/- Contracts of package trim (layer 24) and of the document's own answers for it: the middle. -/
import Derived.Test.YtkcjllkhmncfdaaDoorTrmC
import Derived.Test.YtkcjllkhmncfdaaDoorTrmN
import Derived.Test.YtkcjllkhmncfdaaDoorSpanU
import Derived.Deep.Cut
import Derived.BigQuiet
namespace Go.Proofs.YtkcjllkhmncfdaaDoor.Trm
open Go.ChangeShapes Go.WideShapes Go.ChangeAt Go.RowKit
open I64s (In64 Sl OwnL ListPost app_one app_all)
set_option linter.unusedVariables false
theorem trm_64 {zs : List Int} (h : In64 zs) (f : Int) : In64 (trm f zs) := fun x hx => h x (trm_mem f zs hx)
theorem tmid_any (f : Int) (ad : Option Addr) (cap : Nat) (zs : List Int) (w : World) (h : Sl w ad cap zs) (hm : zs.length ≤ 1000) (h64 : In64 zs) :
    Calls Tryd.prog 16 #[.int .i64 f, .slice ad zs.length cap] w fun e w' => e = .returned (.tuple #[.int .i64 (midV f zs), .bool (midB zs)]) ∧ Below w.heap.size w w' := by
  have C1 := Lib.hid (ttrim_any f ad cap zs w h hm)
  have hp := trm_pos f zs
  have ht := trm_len f zs
  have h64' := Lib.hid (trm_64 h64 f)
  have CM := Lib.hid (fun W ad cap (h : Sl W ad cap (trm f zs)) h0 hm => tmean_any ad cap (trm f zs) W h h0 hm h64'.out)
  have HM : Hid (midV f zs = if (trm f zs).length = 0 then 0 else mn (trm f zs)) := Lib.hid (by
    unfold midV
    by_cases h0 : zs.length = 0
    · rw [if_pos h0, if_pos (by omega)]
    · rw [if_neg h0, if_neg (by omega)])
  have HB : Hid (midB zs = decide (0 < (trm f zs).length)) := Lib.hid (by unfold midB; rw [decide_eq_decide]; exact hp.symm)
  have hm2 : (trm f zs).length ≤ 1000 := by omega
  unfold PartPost at C1
  rw [HM.out, HB.out]
  clear h hp ht h64 h64' HM HB
  generalize trm f zs = l at *
  obtain ⟨n, hn⟩ : ∃ n, l.length = n := ⟨_, rfl⟩
  rw [hn] at C1 CM hm2 ⊢
  clear hn
  by_cases h0 : n = 0
  · subst h0
    go_enter Tryd.func16, Tryd.ntmps16
    go_wp2_with fail
    refine (C1.out).mono ?_; rintro e w1 ⟨ad1, cap1, rfl, hs, hB1⟩
    go_wp2_with fail
    go_ret2
    exact ⟨rfl, hB1⟩
  · rw [if_neg h0, decide_eq_true (show 0 < n by omega)]
    have h0' : ((n : Int) == 0) = false := beq_eq_false_iff_ne.2 (by omega)
    go_enter Tryd.func16, Tryd.ntmps16
    go_wp2_with fail
    refine (C1.out).mono ?_; rintro e w1 ⟨ad1, cap1, rfl, hs, hB1⟩
    have CM1 := Lib.hid (CM.out w1 ad1 cap1 hs (by omega) hm2)
    clear hs C1 CM
    go_wp2_with fail
    refine (CM1.out).mono ?_; rintro e w' ⟨rfl, rfl⟩
    go_wp2_with fail
    go_ret2
    exact ⟨rfl, hB1⟩
theorem lo_wrap (x z h : Int) (h1 : -9223372036854775808 ≤ x + (z - h * 4294967296)) (h2 : x + (z - h * 4294967296) ≤ 9223372036854775807) : wrap64 (wrap64 (x + z) - h * 4294967296) = x + (z - h * 4294967296) := by
  unfold wrap64
  omega
end Go.Proofs.YtkcjllkhmncfdaaDoor.Trm
