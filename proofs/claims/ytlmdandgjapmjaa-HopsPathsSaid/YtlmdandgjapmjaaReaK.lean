/- The law's drawn graph as both graphs (layer 17): the links that may be. -/
import Derived.Test.YtlmdandgjapmjaaReaA
import Derived.Test.YtlmdandgjapmjaaGrfE
import Derived.Test.YtlmdandgjapmjaaGrfT
import Derived.Test.YtlmdandgjapmjaaGrfW
import Derived.BigRegion
import Derived.BigQuiet
import Derived.Deep.QuietTactic
import Derived.Deep.CutRange
namespace Go.Proofs.Ytlmdandgjapmjaa.Rea
open Go.ChangeShapes Go.WideShapes Go.ChangeAt Go.RowKit
open Grf (Pr lk RdG OwnG gval RS GR Ok inI app_one cut_any new_in rd_at)
set_option linter.unusedVariables false
set_option linter.unusedSimpArgs false
/-- The links that may be, of the first ones: each one that is out, or stands there already, is left out. -/
def madeK (n : Nat) (ls : List Pr) : Nat → List Pr
  | 0 => []
  | k + 1 => if Grf.wr n (madeK n ls k) (ls.getD k (0, 0)).1 (ls.getD k (0, 0)).2 = 0 then madeK n ls k ++ [ls.getD k (0, 0)] else madeK n ls k
theorem made_ok (n : Nat) (ls : List Pr) (k : Nat) : Ok n (madeK n ls k) := by
  induction k with
  | zero => exact Grf.ok_nil n
  | succ k ih =>
    rw [madeK]
    split
    · rename_i h; exact Grf.ok_snoc ih h
    · exact ih
theorem made_len (n : Nat) (ls : List Pr) (k : Nat) : (madeK n ls k).length ≤ k := by
  induction k with
  | zero => simp [madeK]
  | succ k ih =>
    rw [madeK]
    split
    · rw [List.length_append]; simp; exact ih
    · omega
theorem made_hit {n : Nat} {ls : List Pr} {k : Nat} (h : Grf.wr n (madeK n ls k) (ls.getD k (0, 0)).1 (ls.getD k (0, 0)).2 = 0) : madeK n ls (k + 1) = madeK n ls k ++ [ls.getD k (0, 0)] := by rw [madeK, if_pos h]
theorem made_miss {n : Nat} {ls : List Pr} {k : Nat} (h : Grf.wr n (madeK n ls k) (ls.getD k (0, 0)).1 (ls.getD k (0, 0)).2 ≠ 0) : madeK n ls (k + 1) = madeK n ls k := by rw [madeK, if_neg h]
def numOf (N : Int) : Nat := if N.tmod 11 < 1 then 5 else (N.tmod 11).toNat
theorem num_range (N : Int) : 1 ≤ numOf N ∧ numOf N ≤ 10 := by
  unfold numOf
  have := Int.tmod_lt_of_pos N (show (0 : Int) < 11 by omega)
  split <;> omega
theorem ok_in {n : Nat} {zs : List Pr} (h : Ok n zs) (h64 : n ≤ 64) : ∀ p ∈ zs, inI p.1 ∧ inI p.2 := fun p hp => by
  obtain ⟨a1, a2, a3, a4, _⟩ := h.1 p hp
  unfold inI
  omega
/-- What lay below base is as it was, but for one block. -/
def KeepG (base gb : Nat) (w1 W : World) : Prop := ∀ j, j < base → j ≠ gb → W.heap[j]? = w1.heap[j]?
theorem KeepG.step {base gb : Nat} {w1 W V : World} (h : KeepG base gb w1 W) (hs : base ≤ W.heap.size) (hB : Below W.heap.size W V) : KeepG base gb w1 V := fun j hj hg => (hB.block j (by omega)).trans (h j hj hg)
theorem KeepG.put {base gb : Nat} {w1 W V : World} (h : KeepG base gb w1 W) (hB : Below base W V) (v : Value) : KeepG base gb w1 (V.setCell ⟨gb, 1, none⟩ v) := fun j hj hg =>
  (Below.heap_setCell _ _ _ j hg).trans ((hB.block j hj).trans (h j hj hg))
theorem KeepG.rd {base gb : Nat} {w1 W : World} {ad : Option Addr} {L : List Pr} (h : KeepG base gb w1 W) (hr : RdG w1 ad L) (hs : base ≤ W.heap.size) (hb : ∀ b off, ad = some ⟨b, off, none⟩ → b < base ∧ b ≠ gb) : RdG W ad L := by
  rcases hr with e | ⟨b, off, e, hbl, hc⟩
  · exact .inl e
  · obtain ⟨h1, h2⟩ := hb b off e
    refine .inr ⟨b, off, e, by omega, fun i hi j u hu => ?_⟩
    have := hc i hi j u hu
    rw [World.cell?] at this ⊢
    rw [h b h1 h2]
    exact this
def MadePost (n : Nat) (L : List Pr) (w : World) (e : Ending) (w' : World) : Prop :=
  ∃ g b ad cap, e = .returned (.tuple #[.pointer (some ⟨g, 0, none⟩), gval (n : Int) (.slice ad L.length cap)]) ∧ GR w' g b n L ∧ RdG w' ad L ∧ Below w.heap.size w w'
theorem own_nil {W : World} {base n cap : Nat} {ad : Option Addr} {L : List Pr} (h : Grf.OwnG W base (.slice ad n cap) L) (e : ad = none) : cap = 0 := by
  rcases h.2 with ⟨hv, -⟩ | ⟨g, cap', cur, hv, -⟩
  · cases hv; rfl
  · subst e; cases hv
/-- As MadePost, and a nil list of links has no room. -/
def MadePostC (n : Nat) (L : List Pr) (w : World) (e : Ending) (w' : World) : Prop :=
  ∃ g b ad cap, e = .returned (.tuple #[.pointer (some ⟨g, 0, none⟩), gval (n : Int) (.slice ad L.length cap)]) ∧ GR w' g b n L ∧ RdG w' ad L ∧ Below w.heap.size w w' ∧ (ad = none → cap = 0)
set_option maxRecDepth 100000 in
set_option maxHeartbeats 4000000 in
theorem made_anyC (N : Int) (hN1 : -9223372036854775808 ≤ N) (hN2 : N ≤ 9223372036854775807) (ada : Option Addr) (len cap : Nat) (ts : List Pr) (w : World) (hlen : ts.length = len) (hc : len ≤ cap) (hm : cap ≤ 9223372036854775807) (hr : RdG w ada ts) (hnil : ada = none → cap = 0) :
    Calls Try.prog 7 #[.agg #[.int .i64 N, .slice ada len cap]] w (MadePostC (numOf N) (madeK (numOf N) (ts.take 60) (ts.take 60).length) w) := by
  obtain ⟨hn1, hn10⟩ := num_range N
  have HNF : Hid (∀ h : N.tmod 11 < 1, numOf N = 5) := Lib.hid (fun h => by unfold numOf; rw [if_pos h])
  have HNT : Hid (∀ h : ¬ N.tmod 11 < 1, (numOf N : Int) = N.tmod 11) := Lib.hid (fun h => by unfold numOf; rw [if_neg h]; omega)
  have CC := Lib.hid (fun W (hB : Below w.heap.size w W) => cut_any ada len cap ts W hlen hc hm (hr.below hB) hnil)
  have HLL : Hid ((ts.take 60).length ≤ 60) := Lib.hid (by rw [List.length_take]; omega)
  clear hlen hc hr hnil
  generalize ts.take 60 = ls at *
  go_enter Try.func7, Try.ntmps7
  go_upto_if 17 with fail
  obtain ⟨n, hn⟩ : ∃ n, numOf N = n := ⟨_, rfl⟩
  rw [hn] at hn1 hn10 HNF HNT ⊢
  have HNN := Lib.hid hn
  clear hn
  have HB2 : Below w.heap.size w ((w.alloc (.cells #[.int .i64 N, .slice ada len cap] 24)).alloc (.cells #[.int .i64 0, .slice none 0 0] 27)) := ((Below.refl _ _).alloc (Nat.le_refl _) _).alloc (by simp) _
  have HX2 := (Rw.Blk.new w 24 #[.int .i64 N, .slice ada len cap]).alloc (.cells #[.int .i64 0, .slice none 0 0] 27)
  have HY2 := Rw.Blk.new (w.alloc (.cells #[.int .i64 N, .slice ada len cap] 24)) 27 #[.int .i64 0, .slice none 0 0]
  rw [World.size_alloc] at HY2
  obtain ⟨w0, hw0⟩ : ∃ w0, (w.alloc (.cells #[.int .i64 N, .slice ada len cap] 24)).alloc (.cells #[.int .i64 0, .slice none 0 0] 27) = w0 := ⟨_, rfl⟩
  have hs0 : w0.heap.size = w.heap.size + 2 := by rw [← hw0]; simp
  rw [hw0] at HB2 HX2 HY2 ⊢
  clear hw0
  have HB2' := Lib.hid HB2
  have HX2' := Lib.hid HX2
  have HY2' := Lib.hid HY2
  have HS0 := Lib.hid hs0
  clear HB2 HX2 HY2 hs0
  go_cut [4] from 13 (fun v W => v = .int .i64 (n : Int) ∧ Hid (w0 = W))
  case first =>
    by_cases h : N.tmod 11 < 1
    · have e5 := Lib.hid (HNF.out h)
      go_wp2_with fail
      go_meet
      case rel => exact ⟨by rw [e5.out]; rfl, Lib.hid rfl⟩
    · have e5 := Lib.hid (HNT.out h)
      have h' : 1 ≤ N.tmod 11 := by omega
      clear h
      go_wp2_with fail
      go_meet
      case rel => exact ⟨by rw [e5.out], Lib.hid rfl⟩
  case rest =>
    obtain ⟨rfl, hW⟩ := hcut
    obtain rfl := hW.out
    clear hW HNF HNT
    have hX1 : (w0.alloc (.cells #[.int .i64 (n : Int), .slice none 0 0] 27)).cell? ⟨w.heap.size, 1, none⟩ = some (.slice ada len cap) := (HX2'.out.alloc _).cell 1
    have HB3 : Hid (Below w.heap.size w (w0.alloc (.cells #[.int .i64 (n : Int), .slice none 0 0] 27))) := Lib.hid (HB2'.out.alloc (by rw [HS0.out]; omega) _)
    have HG3 := Lib.hid (Rw.Blk.new w0 27 #[.int .i64 (n : Int), .slice none 0 0])
    have HR3 := Lib.hid (HY2'.out.alloc (.cells #[.int .i64 (n : Int), .slice none 0 0] 27))
    have CL := Lib.hid (CC.out _ HB3.out)
    clear CC
    go_wp2_with fail
    refine (CL.out).mono ?_; rintro e w1 ⟨adl, capl, rfl, hownl, hB1⟩
    rw [World.size_alloc] at hownl
    have hs3 : (w0.alloc (.cells #[.int .i64 (n : Int), .slice none 0 0] 27)).heap.size = w.heap.size + 3 := by rw [World.size_alloc, HS0.out]
    have HRL := Lib.hid hownl.rd.1
    have HLB : Hid (∀ b off, adl = some ⟨b, off, none⟩ → b < w1.heap.size ∧ b ≠ w.heap.size + 2) := Lib.hid (fun b off e => by
      have := hownl.lt b (by rw [e]; rfl)
      have := HS0.out
      omega)
    have HRS : Hid (RS w (w.heap.size + 1) (w.heap.size + 2) w1.heap.size n (.slice none 0 0) [] w1) := Lib.hid (by
      have h1 := hB1.size
      rw [hs3] at h1
      have hG := HG3.out
      rw [HS0.out] at hG
      have hB1' : Below (w.heap.size + 3) (w0.alloc (.cells #[.int .i64 (n : Int), .slice none 0 0] 27)) w1 := by rw [← hs3]; exact hB1
      exact ⟨(hB1.block _ (by rw [hs3]; omega)).trans HR3.out, (hB1.block _ (by rw [hs3]; omega)).trans hG, OwnG.nil _ _, HB3.out.trans (hB1.mono HB3.out.size), by omega, by omega, by omega, by omega, Nat.le_refl _, by omega⟩)
    have HS2 : Hid (w0.heap.size = w.heap.size + 2) := HS0
    obtain ⟨nl, hnl⟩ : ∃ nl, Hid (ls.length = nl) := ⟨_, Lib.hid rfl⟩
    have hnl60 : nl ≤ 60 := by rw [← hnl.out]; exact HLL.out
    clear hownl hB1 hs3 hX1 HB3 HG3 HR3 CL HX2' HY2' HB2' HLL
    rw [HS0.out, hnl.out]
    clear HS0 HS2
    obtain ⟨rb, hrb⟩ : ∃ rb, Hid (w.heap.size + 1 = rb) := ⟨_, Lib.hid rfl⟩
    obtain ⟨gb, hgb⟩ : ∃ gb, Hid (w.heap.size + 2 = gb) := ⟨_, Lib.hid rfl⟩
    obtain ⟨base, hbase⟩ : ∃ base, Hid (w1.heap.size = base) := ⟨_, Lib.hid rfl⟩
    rw [hgb.out, hbase.out] at HLB
    rw [hgb.out, hrb.out, hbase.out] at HRS
    rw [hgb.out, hrb.out]
    go_wp2_with fail
    go_loopw [25] (fun i wr => ∃ k : Nat, k ≤ nl ∧ i = .int .i64 k ∧ Hid (∃ v, RS w rb gb base n v (madeK n ls k) wr) ∧ Hid (KeepG base gb w1 wr)) (fun i _ => nl - (intOf i).toNat)
    case atStart => exact ⟨0, Nat.zero_le _, rfl, Lib.hid ⟨_, HRS.out⟩, Lib.hid (fun _ _ _ => rfl)⟩
    case round =>
      obtain ⟨k, hk, rfl, HSx, HK⟩ := hrel
      obtain ⟨v, hSv⟩ := HSx.out
      obtain ⟨adv, capv, rfl⟩ := hSv.own.shape
      have HSv := Lib.hid hSv
      clear HSx hSv HRS
      obtain ⟨nm, hnm⟩ : ∃ nm, Hid ((madeK n ls k).length = nm) := ⟨_, Lib.hid rfl⟩
      have hnmk : nm ≤ k := by rw [← hnm.out]; exact made_len n ls k
      rw [hnm.out] at HSv
      by_cases hlt : k < nl
      · have hk' : k < ls.length := by rw [hnl.out]; exact hlt
        have hRL := HK.out.rd HRL.out HSv.out.lt5 HLB.out
        obtain ⟨bz, off, rfl, hbz, e0, e1⟩ := rd_at hRL (i := k) hk'
        have HHIT := Lib.hid (made_hit (n := n) (ls := ls) (k := k))
        have HMISS := Lib.hid (made_miss (n := n) (ls := ls) (k := k))
        generalize hp : ls.getD k (0, 0) = p at *
        obtain ⟨x, y⟩ := p
        simp only at e0 e1 HHIT HMISS
        clear hp hk' hRL hbz
        obtain ⟨M, hM⟩ : ∃ M, madeK n ls k = M := ⟨_, rfl⟩
        rw [hM] at HHIT HMISS HSv hnm
        have CK := Lib.hid (fun W (hS : RS w rb gb base n (.slice adv nm capv) M W) => Grf.rlinked_any (n : Int) adv nm capv M x y W hnm.out (by omega) hS.own.rd.1)
        unfold gval at CK
        clear hM
        have HSd := Lib.hid (HSv.out.step (((Below.refl wr.heap.size wr).alloc (Nat.le_refl _) (.cells #[.int .i64 x, .int .i64 y] 53)).drew))
        have HKd := Lib.hid (HK.out.step HSv.out.lt5 (((Below.refl wr.heap.size wr).alloc (Nat.le_refl _) (.cells #[.int .i64 x, .int .i64 y] 53)).drew))
        clear HSv HK
        go_upto_region 9 with fail
        go_region
        obtain ⟨WV, hWV⟩ : ∃ WV, (wr.alloc (.cells #[.int .i64 x, .int .i64 y] 53)).drew = WV := ⟨_, rfl⟩
        rw [hWV] at HSd HKd ⊢
        have HSV := HSd
        have HKV := HKd
        clear hWV HSd HKd e0 e1
        obtain ⟨⟨c0, c1, f1⟩, c2, c3, f2, f3⟩ := HSV.out.cells
        by_cases t1 : 0 ≤ x
        · have d1 : decide (0 ≤ x) = true := decide_eq_true t1
          by_cases t2 : x < (n : Int)
          · have d2 : decide (x < (n : Int)) = true := decide_eq_true t2
            by_cases t3 : 0 ≤ y
            · have d3 : decide (0 ≤ y) = true := decide_eq_true t3
              by_cases t4 : y < (n : Int)
              · have d4 : decide (y < (n : Int)) = true := decide_eq_true t4
                by_cases t5 : x = y
                · subst t5
                  have d5 : (x == x) = true := beq_iff_eq.2 rfl
                  have d5' : (x != x) = false := by simp
                  have HM := Lib.hid (HMISS.out (by intro h; have := Grf.wr_zero.1 h; exact this.2.2.2.2.1 rfl))
                  clear HMISS
                  clear HHIT c0 c1 f1 c2 c3 f2 f3 CK
                  go_wp2_with fail
                  go_roundw
                  case rel => exact ⟨k + 1, by omega, by go_num, Lib.hid ⟨_, by rw [HM.out]; exact HSV.out⟩, HKV⟩
                  case measure => simp [intOf]; omega
                · have d5 : (x == y) = false := beq_eq_false_iff_ne.2 t5
                  have d5' : (x != y) = true := bne_iff_ne.2 t5
                  cases hr : lk M x y with
                  | true =>
                    have HM := Lib.hid (HMISS.out (by intro h; have := Grf.wr_zero.1 h; rw [hr] at this; exact absurd this.2.2.2.2.2 (by simp)))
                    clear HMISS HHIT
                    have CKK := Lib.hid (CK.out _ HSV.out)
                    rw [hr] at CKK
                    clear CK hr t5
                    go_wp2_with fail
                    refine (CKK.out).mono ?_; rintro e w5 ⟨rfl, hB5⟩
                    have HS5 := Lib.hid (HSV.out.step hB5)
                    have HK5 := Lib.hid (HKV.out.step HSV.out.lt5 hB5)
                    clear hB5 c0 c1 f1 c2 c3 f2 f3 CKK HSV HKV
                    go_wp2_with fail
                    go_roundw
                    case rel => exact ⟨k + 1, by omega, by go_num, Lib.hid ⟨_, by rw [HM.out]; exact HS5.out⟩, HK5⟩
                    case measure => simp [intOf]; omega
                  | false =>
                    have HM := Lib.hid (HHIT.out (Grf.wr_zero.2 ⟨t1, t2, t3, t4, t5, hr⟩))
                    clear HMISS HHIT
                    have CKK := Lib.hid (CK.out _ HSV.out)
                    rw [hr] at CKK
                    clear CK hr t5
                    go_wp2_with fail
                    refine (CKK.out).mono ?_; rintro e w5 ⟨rfl, hB5⟩
                    have HS5 := Lib.hid (HSV.out.step hB5)
                    have HK5 := Lib.hid (HKV.out.step HSV.out.lt5 hB5)
                    clear hB5 c0 c1 f1 c2 c3 f2 f3 CKK HSV HKV
                    obtain ⟨⟨c0, c1, f1⟩, c2, c3, f2, f3⟩ := HS5.out.cells
                    have hown := HS5.out.own
                    have hsz := HS5.out.lt5
                    have HBB : Hid (∀ w6, (∀ j, j < w5.heap.size → some j ≠ (Value.slice adv nm capv).ownBlock → w6.heap[j]? = w5.heap[j]?) → Rw.Blk w6 gb 27 #[.int .i64 (n : Int), .slice adv nm capv] ∧ Rw.Blk w6 rb 27 #[.int .i64 0, .slice none 0 0]) := Lib.hid (fun w6 h =>
                      ⟨(h gb HS5.out.box.lt (fun e => Rw.own_ne hown HS5.out.box (by decide) e.symm)).trans HS5.out.box, (h rb HS5.out.res.lt (fun e => Rw.own_ne hown HS5.out.res (by decide) e.symm)).trans HS5.out.res⟩)
                    have HRL : Hid (∀ v' w6, OwnG w6 base v' (M ++ [(x, y)]) → Below base w5 w6 → Rw.Blk w6 gb 27 #[.int .i64 (n : Int), .slice adv nm capv] ∧ Rw.Blk w6 rb 27 #[.int .i64 0, .slice none 0 0] → RS w rb gb base n v' (madeK n ls (k + 1)) (w6.setCell ⟨gb, 1, none⟩ v')) := Lib.hid (fun v' w6 ho hb hbb => by
                      have hS := HS5.out
                      have hst : Rw.Stay (fun j => j = gb) w6 (w6.setCell ⟨gb, 1, none⟩ v') := Rw.Stay.of_grown (F := fun j => j = gb) (Rw.setCell_grown w6 gb 1 v') (by intro j e; simpa using e.symm)
                      have hwb : w.heap.size ≤ base := by have := hS.lt1; have := hS.lt3; omega
                      refine ⟨hbb.2.far (p := ⟨gb, 1, none⟩) hS.ne v', ?_, by rw [HM.out]; exact ho.stay hst (fun j e => by rw [e]; exact hS.lt4), (hS.below.trans (hb.mono hwb)).setCell (p := ⟨gb, 1, none⟩) hS.lt2 v', hS.lt1, hS.lt2, hS.lt3, hS.lt4, Nat.le_trans hS.lt5 (Nat.le_trans hb.size hst.size), hS.ne⟩
                      have := hbb.1.put 1 v'
                      simpa using this)
                    have HK6 : Hid (∀ v' w6, Below base w5 w6 → KeepG base gb w1 (w6.setCell ⟨gb, 1, none⟩ v')) := Lib.hid (fun v' w6 hb => HK5.out.put hb v')
                    have HLN : Hid ((M ++ [(x, y)]).length = M.length + 1) := Lib.hid (by rw [List.length_append]; rfl)
                    have hlen : M.length < 1099511627776 := by rw [hnm.out]; omega
                    clear HS5 HK5
                    go_wp2_with (at_builtin; refine app_one rfl _ _ rfl base _ _ rfl hown x y rfl hlen hsz ?_; intro v' w6 hown' hB6 hblk; obtain ⟨ad', cap', rfl⟩ := hown'.shape; have hbb := HBB.out w6 hblk; have g1 : w6.cell? ⟨gb, 1, none⟩ = some (.slice adv nm capv) := hbb.1.cell 1; have g1f : w6.frozen? ⟨gb, 1, none⟩ = false := hbb.1.free 1)
                    go_roundw
                    case rel => exact ⟨k + 1, by omega, by go_num, Lib.hid ⟨_, HRL.out _ w6 (by rw [HLN.out] at hown'; exact hown') hB6 hbb⟩, Lib.hid (HK6.out _ w6 hB6)⟩
                    case measure => simp [intOf]; omega
              · have d4 : decide (y < (n : Int)) = false := decide_eq_false t4
                have HM := Lib.hid (HMISS.out (by intro h; have := Grf.wr_zero.1 h; omega))
                clear HMISS
                clear HHIT c0 c1 f1 c2 c3 f2 f3 CK
                go_wp2_with fail
                go_roundw
                case rel => exact ⟨k + 1, by omega, by go_num, Lib.hid ⟨_, by rw [HM.out]; exact HSV.out⟩, HKV⟩
                case measure => simp [intOf]; omega
            · have d3 : decide (0 ≤ y) = false := decide_eq_false t3
              have HM := Lib.hid (HMISS.out (by intro h; have := Grf.wr_zero.1 h; omega))
              clear HMISS
              clear HHIT c0 c1 f1 c2 c3 f2 f3 CK
              go_wp2_with fail
              go_roundw
              case rel => exact ⟨k + 1, by omega, by go_num, Lib.hid ⟨_, by rw [HM.out]; exact HSV.out⟩, HKV⟩
              case measure => simp [intOf]; omega
          · have d2 : decide (x < (n : Int)) = false := decide_eq_false t2
            have HM := Lib.hid (HMISS.out (by intro h; have := Grf.wr_zero.1 h; omega))
            clear HMISS
            clear HHIT c0 c1 f1 c2 c3 f2 f3 CK
            go_wp2_with fail
            go_roundw
            case rel => exact ⟨k + 1, by omega, by go_num, Lib.hid ⟨_, by rw [HM.out]; exact HSV.out⟩, HKV⟩
            case measure => simp [intOf]; omega
        · have d1 : decide (0 ≤ x) = false := decide_eq_false t1
          have HM := Lib.hid (HMISS.out (by intro h; have := Grf.wr_zero.1 h; omega))
          clear HMISS
          clear HHIT c0 c1 f1 c2 c3 f2 f3 CK
          go_wp2_with fail
          go_roundw
          case rel => exact ⟨k + 1, by omega, by go_num, Lib.hid ⟨_, by rw [HM.out]; exact HSV.out⟩, HKV⟩
          case measure => simp [intOf]; omega
      · obtain rfl : k = nl := by omega
        obtain ⟨M, hM⟩ : ∃ M, madeK n ls k = M := ⟨_, rfl⟩
        rw [hM] at HSv hnm
        have HOK : Hid (Ok n M) := Lib.hid (by rw [← hM]; exact made_ok n ls k)
        have HKL := Lib.hid hnl.out
        have hRM := HSv.out.own.rd.1
        have CN := Lib.hid (new_in n hn1 (by omega) adv nm capv M hnm.out (by omega) (ok_in HOK.out (by omega)) wr hRM)
        have HER : Hid (Grf.erF n [] M = 0) := Lib.hid (Grf.ok_er (by simpa using HOK.out))
        unfold Grf.NPost at CN
        obtain ⟨⟨c0, c1, f1⟩, c2, c3, f2, f3⟩ := HSv.out.cells
        clear HK HRL HLB
        go_wp2_with fail
        refine (CN.out).mono ?_; rintro e w5 ⟨hp1, -, hB5⟩
        obtain ⟨g, b, rfl, hG, hgl, hbl⟩ := hp1 HER.out
        have HB5 : Hid (rb < g ∧ rb < b) := Lib.hid (by have := HSv.out.res.lt; omega)
        have HS5 := Lib.hid (HSv.out.step hB5)
        have HG5 := Lib.hid hG
        clear hp1 hG hB5 c0 c1 f1 c2 c3 f2 f3 hRM CN HSv
        obtain ⟨⟨c0, c1, f1⟩, c2, c3, f2, f3⟩ := HS5.out.cells
        have HPP : Hid (MadePostC (numOf N) (madeK (numOf N) ls ls.length) w (.returned (.tuple #[.pointer (some ⟨g, 0, none⟩), gval (n : Int) (.slice adv nm capv)])) (((w5.drew).setCell ⟨rb, 0, none⟩ (.int .i64 (n : Int))).setCell ⟨rb, 1, none⟩ (.slice adv nm capv))) := Lib.hid (by
          rw [HNN.out, HKL.out, hM]
          have hSd := HS5.out.step (Below.refl _ _).drew
          have hk := hSd.own.stay (F := fun j => j = rb) (w' := ((w5.drew).setCell ⟨rb, 0, none⟩ (.int .i64 (n : Int))).setCell ⟨rb, 1, none⟩ (.slice adv nm capv))
            ((Rw.Stay.of_grown (F := fun j => j = rb) (Rw.setCell_grown _ rb 0 _) (by intro j e; simpa using e.symm)).snoc (Rw.Stay.of_grown (F := fun j => j = rb) (Rw.setCell_grown _ rb 1 _) (by intro j e; simpa using e.symm)) (fun _ _ e => e)) (fun j e => by rw [e]; exact hSd.lt3)
          have h2 := HB5.out
          refine ⟨g, b, adv, capv, by rw [hnm.out], ?_, hk.rd.1, (Grf.set2 rfl hSd.res hSd.lt1 hSd.below _ _).2.2, fun e => own_nil hSd.own e⟩
          exact (HG5.out.of (w' := ((w5.drew).setCell ⟨rb, 0, none⟩ (.int .i64 (n : Int))).setCell ⟨rb, 1, none⟩ (.slice adv nm capv))
            ((Below.heap_setCell _ _ _ g (by show g ≠ rb; omega)).trans (Below.heap_setCell _ _ _ g (by show g ≠ rb; omega))) ((Below.heap_setCell _ _ _ b (by show b ≠ rb; omega)).trans (Below.heap_setCell _ _ _ b (by show b ≠ rb; omega)))))
        have hSd := HS5.out.step (Below.refl _ _).drew
        obtain ⟨r0, r1, -⟩ := Grf.set2 rfl hSd.res hSd.lt1 hSd.below (.int .i64 (n : Int)) (.slice adv nm capv)
        clear hSd HS5 HG5 HNN HKL HB5
        have r0' : (((w5.setCell ⟨rb, 0, none⟩ (.int .i64 (n : Int))).setCell ⟨rb, 1, none⟩ (.slice adv nm capv)).drew).cell? ⟨rb, 0, none⟩ = some (.int .i64 (n : Int)) := r0
        have r1' : (((w5.setCell ⟨rb, 0, none⟩ (.int .i64 (n : Int))).setCell ⟨rb, 1, none⟩ (.slice adv nm capv)).drew).cell? ⟨rb, 1, none⟩ = some (.slice adv nm capv) := r1
        clear r0 r1
        go_upto_region 14 with fail
        go_region
        go_wp2_with fail
        refine bodyPost_ret (v := .tuple #[.pointer (some ⟨g, 0, none⟩), gval (n : Int) (.slice adv nm capv)]) (by simp [gval, results, Try.results7, go_sem, r0', r1']) rfl ?_
        exact HPP.out
theorem made_any (N : Int) (hN1 : -9223372036854775808 ≤ N) (hN2 : N ≤ 9223372036854775807) (ada : Option Addr) (len cap : Nat) (ts : List Pr) (w : World) (hlen : ts.length = len) (hc : len ≤ cap) (hm : cap ≤ 9223372036854775807) (hr : RdG w ada ts) (hnil : ada = none → cap = 0) :
    Calls Try.prog 7 #[.agg #[.int .i64 N, .slice ada len cap]] w (MadePost (numOf N) (madeK (numOf N) (ts.take 60) (ts.take 60).length) w) :=
  (made_anyC N hN1 hN2 ada len cap ts w hlen hc hm hr hnil).mono fun e w' ⟨g, b, ad, cap, h1, h2, h3, h4, _⟩ => ⟨g, b, ad, cap, h1, h2, h3, h4⟩
end Go.Proofs.Ytlmdandgjapmjaa.Rea
