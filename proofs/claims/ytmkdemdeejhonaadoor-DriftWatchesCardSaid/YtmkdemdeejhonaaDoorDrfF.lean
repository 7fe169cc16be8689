/- Contracts of package drift (layer 28): Note. -/
import Derived.Test.YtmkdemdeejhonaaDoorDrfC
import Derived.Test.YtmkdemdeejhonaaDoorDrfE
import Derived.Deep.Cut
namespace Go.Proofs.YtmkdemdeejhonaaDoor.Drf
open Go.RowKit Go.ChangeShapes Go.WideShapes Go.ChangeAt
open Go.Proofs.YtmkdemdeejhonaaDoor.Rw
open Nodes (Tabs mem mem_mem)
set_option linter.unusedVariables false
/-- A watch behind a note. -/
def nextW (a : Wt) (n : Nt) : Wt := { wide a (gapV n) (kp n.tick) with pace := a.pace + lateN a.n n a.slow a.fast, n := n }
def noteB (a : Wt) (n : Nt) : Bool := decide (gapV n ≤ a.eps) && decide (lateN a.n n a.slow a.fast = 0)
theorem wide_keeps (a : Wt) (g t : Int) : (wide a g t).n = a.n ∧ (wide a g t).slow = a.slow ∧ (wide a g t).fast = a.fast ∧ (wide a g t).pace = a.pace := by
  unfold wide
  dsimp only
  split <;> split <;> exact ⟨rfl, rfl, rfl, rfl⟩
/-- A watch and the note beside it. -/
structure RR (g b : Nat) (n : Nt) (w : World) (c : Wt) (W : World) : Prop where
  wc : WC W g c
  nc : NC W b n
  tabs : Tabs W
  stay : Stay (fun k => k = g) w W
theorem RR.below {g b : Nat} {n : Nt} {w W W' : World} {c : Wt} (h : RR g b n w c W) (hB : Below W.heap.size W W') : RR g b n w c W' :=
  ⟨h.wc.below hB, h.nc.below hB, h.tabs.below hB, h.stay.snoc (Stay.of_below hB) (fun k _ e => e)⟩
theorem tabs_stay {g : Nat} {W W' : World} (h : Tabs W) (hs : Stay (fun k => k = g) W W') (hg : g ≠ 0) : Tabs W' := by
  have hb : W'.heap[0]? = W.heap[0]? := hs.block _ h.2 (fun e => hg e.symm)
  refine ⟨fun j hj => ?_, Nat.lt_of_lt_of_le h.2 hs.size⟩
  have := h.1 j hj
  unfold World.cell? at this ⊢
  dsimp only at this ⊢
  rw [hb]
  exact this
theorem RR.setw {g b : Nat} {n : Nt} {w W W' : World} {c c' : Wt} (h : RR g b n w c W) (hs : SetW g c' W W') (hgb : g ≠ b) (hg : g ≠ 0) : RR g b n w c' W' :=
  ⟨hs.1, h.nc.stay hs.2 (fun e => hgb e.symm), tabs_stay h.tabs hs.2 hg, h.stay.snoc hs.2 (fun k _ e => e)⟩
theorem RR.tick {g b : Nat} {n : Nt} {w W : World} {c : Wt} (h : RR g b n w c W) : W.cell? ⟨b, 0, none⟩ = some (.int .i64 (kp n.tick)) := h.nc.tick
theorem watch_tab {w : World} {g : Nat} {a : Wt} (h : WC w g a) (hT : Tabs w) : g ≠ 0 := by
  rintro rfl
  have h1 := h.eps
  have h2 := hT.1 0 (by decide)
  rw [h1] at h2
  injection h2 with h2
  injection h2 with h2
  cases h2
theorem watch_note {w : World} {g b : Nat} {a : Wt} {n : Nt} (h : WC w g a) (h' : NC w b n) : g ≠ b := Blk.ne h h' (by decide)
theorem zero_row : (Value.int .i64 0 :: Value.int .u64 0 :: zs64).toArray.size = 66 := rfl
set_option maxRecDepth 100000 in
set_option maxHeartbeats 4000000 in
theorem note_any (g : Nat) (a : Wt) (tick : Int) (ad : Option Addr) (cap : Nat) (l : List Int) (S : Nat) (hS : S < 18446744073709551616) (hS' : a.n.set < 18446744073709551616) (hap : a.apart < 1000000) (hpc : a.pace < 1000000)
    (w : World) (h : WC w g a) (hl : I64s.Sl w ad cap l) (hT : Tabs w) :
    Calls Tryd.prog 9 #[.pointer (some ⟨g, 0, none⟩), .int .i64 tick, .slice ad l.length cap, .int .u64 (S : Int)] w fun e w' => e = .returned (.bool (noteB a ⟨tick, l, S⟩)) ∧ SetW g (nextW a ⟨tick, l, S⟩) w w' := by
  have CN := Lib.hid (noted_any tick ad cap l S hS w hl hT)
  obtain ⟨n, hn⟩ : ∃ n : Nt, (⟨tick, l, S⟩ : Nt) = n := ⟨_, rfl⟩
  have hnS : n.set < 18446744073709551616 := by rw [← hn]; exact hS
  have hnt : n.tick = tick := by rw [← hn]
  rw [hn] at CN ⊢
  have hgl := h.lt
  have hgt := watch_tab h hT
  have R0 := Lib.hid (fun w1 (hB : Below w.heap.size w w1) => show RR g w1.heap.size n w a (w1.alloc (.cells (ncells n).toArray 50)) from
    ⟨Blk.alloc (h.below hB) _, Blk.new w1 _ _, (hT.below hB).below ((Below.refl _ _).alloc (Nat.le_refl _) _), Stay.of_below (hB.alloc hB.size _)⟩)
  obtain ⟨k1, k2, k3, k4⟩ := wide_keeps a (gapV n) (kp n.tick)
  have CG := Lib.hid (fun b W (hR : RR g b n w a W) => show Calls Tryd.prog 20 #[.pointer (some ⟨b, 0, none⟩)] W fun e w' => e = .returned (.int .i64 (gapV n)) ∧ RR g b n w a w' from
    (dgap_any b n hnS W hR.nc hR.tabs).mono (fun e w' hw => ⟨hw.1, hR.below hw.2⟩))
  have CG' := Lib.hid (fun b W (hR : RR g b n w (wide a (gapV n) (kp n.tick)) W) => show Calls Tryd.prog 20 #[.pointer (some ⟨b, 0, none⟩)] W fun e w' => e = .returned (.int .i64 (gapV n)) ∧ RR g b n w (wide a (gapV n) (kp n.tick)) w' from
    (dgap_any b n hnS W hR.nc hR.tabs).mono (fun e w' hw => ⟨hw.1, hR.below hw.2⟩))
  have CS := Lib.hid (fun b W (hR : RR g b n w a W) => show Calls Tryd.prog 19 #[.pointer (some ⟨g, 0, none⟩), .int .i64 (gapV n), .int .i64 (kp n.tick)] W fun e w' => e = .returned (.bool (decide (gapV n ≤ a.eps))) ∧ RR g b n w (wide a (gapV n) (kp n.tick)) w' from
    (spread_any g a (gapV n) (kp n.tick) hap W hR.wc).mono (fun e w' hw => ⟨hw.1, hR.setw hw.2 (watch_note hR.wc hR.nc) hgt⟩))
  have CO := Lib.hid (fun b W (hR : RR g b n w a W) => show Calls Tryd.prog 21 #[.pointer (some ⟨g, 0, none⟩), .pointer (some ⟨b, 0, none⟩)] W fun e w' => e = .returned (.int .i64 ((lateN a.n n a.slow a.fast : Nat) : Int)) ∧ RR g b n w a w' from
    (late_any g b a n hnS hS' W hR.wc hR.nc hR.tabs).mono (fun e w' hw => ⟨hw.1, hR.below hw.2⟩))
  have CO' := Lib.hid (fun b W (hR : RR g b n w (wide a (gapV n) (kp n.tick)) W) => show Calls Tryd.prog 21 #[.pointer (some ⟨g, 0, none⟩), .pointer (some ⟨b, 0, none⟩)] W fun e w' => e = .returned (.int .i64 ((lateN a.n n a.slow a.fast : Nat) : Int)) ∧ RR g b n w (wide a (gapV n) (kp n.tick)) w' from by
      have := late_any g b _ n hnS (by rw [k1]; exact hS') W hR.wc hR.nc hR.tabs
      rw [k1, k2, k3] at this
      exact this.mono (fun e w' hw => ⟨hw.1, hR.below hw.2⟩))
  have hzz := zeroN
  have hzl : zs64.length = 64 := rfl
  have HZ := Lib.hid zero_row
  generalize zs64 = zs at *
  have hlen := nc_len n
  have hone := row_one (kp n.tick) n.s (told n)
  have HLE := Lib.hid (late_le a.n n a.slow a.fast)
  have HN : Hid (noteB a n = (decide (gapV n ≤ a.eps) && decide (lateN a.n n a.slow a.fast = 0))) := Lib.hid rfl
  have HW : Hid (nextW a n = { wide a (gapV n) (kp n.tick) with pace := a.pace + lateN a.n n a.slow a.fast, n := n }) := Lib.hid rfl
  rw [HN.out, HW.out]
  clear h hl hT
  go_enter Tryd.func9, Tryd.ntmps9
  go_wp2_with fail
  refine (CN.out).mono ?_; rintro e w1 ⟨rfl, hB⟩
  have R1 := Lib.hid (R0.out w1 hB)
  have hs1 := hB.size
  clear CN R0 hB
  go_wp2_with (refine store_res rfl _ _ rfl w1.heap.size (ncells n) rfl rfl hlen hone _ (Blk.new w1 _ _) HZ.out ?_)
  rw [World.setRow_alloc_new]
  obtain ⟨W2, hW2⟩ : ∃ W2, w1.alloc (.cells (ncells n).toArray 50) = W2 := ⟨_, rfl⟩
  rw [hW2] at R1 ⊢
  clear hW2
  generalize w1.heap.size = b at *
  have hgb : g ≠ b := watch_note R1.out.wc R1.out.nc
  have R2 : RR g b n w a W2.drew := R1.out.below ((Below.refl _ _).drew)
  have cT := R1.out.tick
  obtain ⟨gv, hgv⟩ : ∃ gv, Hid (gapV n = gv) := ⟨_, Lib.hid rfl⟩
  obtain ⟨lt, hlt⟩ : ∃ lt, Hid (lateN a.n n a.slow a.fast = lt) := ⟨_, Lib.hid rfl⟩
  obtain ⟨kt, hkt⟩ : ∃ kt, Hid (kp n.tick = kt) := ⟨_, Lib.hid rfl⟩
  obtain ⟨a1, ha1⟩ : ∃ a1, Hid (wide a gv kt = a1) := ⟨_, Lib.hid rfl⟩
  rw [hgv.out, hkt.out] at CS CO'
  rw [hgv.out] at CG
  rw [hlt.out] at CO' HLE
  rw [ha1.out] at CS CO'
  rw [hkt.out] at cT
  have HWP : Hid (a1.pace = a.pace) := Lib.hid (by rw [← ha1.out, ← hgv.out, ← hkt.out]; exact k4)
  clear k1 k2 k3 k4 hzz CG' CO hzl HZ R1
  go_region_held3 (fun W => W.cell? ⟨b, 0, none⟩ = some (.int .i64 kt)) (first | go_keep | exact hkt.out ▸ RR.tick (by assumption)) (first
    | (go_at_call 20; refine (CG.out _ _ (by assumption)).mono ?_; rintro e w2 ⟨rfl, R3⟩)
    | (go_at_call 19; refine (CS.out _ _ (by assumption)).mono ?_; rintro e w3 ⟨rfl, R4⟩)
    | (go_at_call 21; refine (CO'.out _ _ (by assumption)).mono ?_; rintro e w4 ⟨rfl, R5⟩))
  obtain ⟨pc, hpc1⟩ : ∃ pc, Hid (a.pace + lt = pc) := ⟨_, Lib.hid rfl⟩
  have E0 : SetW g a1 w w4 := ⟨R5.wc, R5.stay⟩
  have E1 := E0.setPace pc
  have E2 := E1.setNote n
  have c72 := R5.wc.pace
  rw [HWP.out] at c72
  have f72 := R5.wc.free 72
  have bN : Blk (w4.setCell ⟨g, 72, none⟩ (.int .i64 (pc : Int))) b 50 (ncells n).toArray := R5.nc.far (show b ≠ g from fun e => hgb e.symm) _
  have hwr : IntKind.i64.wrap ((a.pace : Int) + (lt : Int)) = (pc : Int) := by have := HLE.out; rw [IntKind.wrap_i64, ← hpc1.out]; omega
  have HF : Hid (SetW g { wide a (gapV n) (kp n.tick) with pace := a.pace + lateN a.n n a.slow a.fast, n := n } w ((w4.setCell ⟨g, 72, none⟩ (.int .i64 (pc : Int))).setRow g (Drf.noted { a1 with pace := pc } n).toArray)) := Lib.hid (by
    rw [hgv.out, hkt.out, ha1.out, hlt.out, hpc1.out]
    exact E2)
  have HW1 := Lib.hid E1.1
  clear E0 E1 E2 R2 R3 R4 R5 CG CS CO' HWP cT
  go_upto_region 6 with fail
  generalize w4.setCell ⟨g, 72, none⟩ (.int .i64 (pc : Int)) = w5 at *
  clear c72 f72 hwr
  go_upto_region 7 with (first
    | (refine load_note rfl _ rfl b rfl (ncells n).toArray (by simpa using hlen) bN ?_)
    | (refine store_note rfl _ _ rfl rfl n rfl HW1.out ?_))
  generalize w5.setRow g (Drf.noted { a1 with pace := pc } n).toArray = w6 at *
  clear bN HW1 hkt ha1 hlen hone HW hnt
  cases hd : decide (gv ≤ a.eps) with
  | false =>
    have HA : Hid ((decide (gapV n ≤ a.eps) && decide (lateN a.n n a.slow a.fast = 0)) = false) := Lib.hid (by rw [hgv.out, hd]; rfl)
    go_wp2_with fail
    go_ret
    exact ⟨by rw [HA.out]; rfl, HF.out⟩
  | true =>
    have HA : Hid ((decide (gapV n ≤ a.eps) && decide (lateN a.n n a.slow a.fast = 0)) = ((lt : Int) == 0)) := Lib.hid (by rw [hgv.out, hd, hlt.out, Bool.eq_iff_iff]; simp)
    go_wp2_with fail
    go_ret
    exact ⟨by rw [HA.out]; rfl, HF.out⟩
end Go.Proofs.YtmkdemdeejhonaaDoor.Drf
