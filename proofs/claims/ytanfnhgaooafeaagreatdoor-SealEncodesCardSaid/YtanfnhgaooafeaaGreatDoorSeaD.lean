/- Contracts (layer 14): a packet read to the end of its bytes. -/
import Derived.Test.YtanfnhgaooafeaaGreatDoorSeaA
import Derived.Test.YtanfnhgaooafeaaGreatDoorSeaM
import Derived.Test.YtanfnhgaooafeaaGreatDoorSeaN
import Derived.Test.YtanfnhgaooafeaaGreatDoorHedN
import Derived.Test.YtanfnhgaooafeaaGreatDoorHedY
import Derived.Test.YtanfnhgaooafeaaGreatDoorPulL
import Derived.Test.YtanfnhgaooafeaaGreatDoorAttX
import Derived.Test.YtanfnhgaooafeaaGreatDoorChuY
import Derived.Test.YtanfnhgaooafeaaGreatDoorDatY
import Derived.Deep.RegionHeldLaw
import Derived.Deep.MidRow
namespace Go.Proofs.YtanfnhgaooafeaaGreatDoor.Sea
open Go.ChangeShapes Go.WideShapes Go.ChangeAt Go.RowKit Go.Deep
open Go.Proofs.YtanfnhgaooafeaaGreatDoor.Byt Go.Proofs.YtanfnhgaooafeaaGreatDoor.Key Go.Proofs.YtanfnhgaooafeaaGreatDoor.Buf Go.Proofs.YtanfnhgaooafeaaGreatDoor.Hed Go.Proofs.YtanfnhgaooafeaaGreatDoor.Dat Go.Proofs.YtanfnhgaooafeaaGreatDoor.BufM Go.Proofs.YtanfnhgaooafeaaGreatDoor.Pkt
set_option linter.unusedVariables false
set_option linter.unusedSimpArgs false
/-- Bytes don't lie in a packet's box. -/
theorem rd_setRow {W : World} {bq : Nat} {q : Pk} {es : Array Value} {ad : Option Addr} {l : List UInt8} (hr : RdB W ad l) (hb : Blk W bq 27 q.cells) : RdB (W.setRow bq es) ad l := by
  refine rd_kept hr fun hl b o e _ => ?_
  by_cases hbq : b = bq
  · exfalso
    subst hbq
    rcases hr with h | ⟨b', off, e', hc⟩
    · exact hl h
    · rw [e] at e'
      cases e'
      have h1 := hc 0 (List.length_pos_iff.2 hl)
      rw [hb.cell] at h1
      simp only [Nat.add_zero] at h1
      unfold Pk.cells at h1
      rcases o with _ | _ | _ | _ | _ | _ | _ | _ | _ | _ | _ | _ | o <;> simp at h1
  · exact setRow_other _ _ _ _ (by omega)
/-- A packet's row may be taken first, where it stays. -/
theorem yields_pk {ops : Array Oper} {S : World → Prop} {op : Oper} {a : Act} (hw : Region.wanted op (yielded ops a.tmps) = true) (x : Operand) (ho : op.op = .load 27 x)
    (b : Nat) (hx : a.eval x = .pointer (some ⟨b, 0, none⟩)) (p : Pk) (hS : ∀ w, S w → Blk w b 27 p.cells) : YieldsIf Tryz.prog ops S op (pval p) a :=
  yieldsIf_load_mid hw 27 x ho b 0 hx p.cells.toList _ (fun w h j v hj => by rw [Nat.zero_add, (hS w h).cell]; simpa using hj) Tryz.underlying27 rfl infoPk
/-- A packet's row, stored, as a step of a region that draws its order. -/
theorem step_store_pk {ops : Array Oper} {o : Oper} {a : Act} {K : Act → World → Prop} {Q : Exit → Act → World → Prop} {E : Prop} {W : World} (hgd : o.guard = none) (x y : Operand) (ho : o.op = .store 27 x y)
    (g : Nat) (p : Pk) (hx : a.eval x = .pointer (some ⟨g, 0, none⟩)) (hy : a.eval y = pval p) (old : Array Value) (hg : Blk W g 27 old) (hold : old.size = 12)
    (h : K (a.put o.dst undef) (W.setRow g p.cells)) : if Region.wanted o (yielded ops a.tmps) = true then Oper.wp Tryz.prog o a W K Q else E := by
  have hw : Region.wanted o (yielded ops a.tmps) = true := by simp [Region.wanted, hgd]
  rw [if_pos hw]
  exact wp_store_row 27 x y ho g p.cells hx hy 27 old hg infoPk hold (pkP_one p) h
/-- A reader's step beside two packets' boxes. -/
structure QR (w : World) (g bq bp : Nat) (z q : Pk) (W : World) : Prop where
  res : Blk W bq 27 z.cells
  box : Blk W bp 27 q.cells
  lt1 : g < bq
  lt2 : bq < bp
  below : Below g w W
theorem QR.step {w : World} {g bq bp : Nat} {z q : Pk} {W V : World} (h : QR w g bq bp z q W) (hs : RStep W V g) : QR w g bq bp z q V :=
  ⟨(hs.block _ h.lt1 h.res.lt).trans h.res, (hs.block _ (by have := h.lt1; have := h.lt2; omega) h.box.lt).trans h.box, h.lt1, h.lt2, h.below.trans hs.below⟩
theorem QR.kept {w : World} {g bq bp : Nat} {z q : Pk} {W V : World} (h : QR w g bq bp z q W) (hB : Below W.heap.size W V) : QR w g bq bp z q V :=
  h.step (RStep.of_below hB (by have := h.res.lt; have := h.lt1; omega))
theorem QR.put {w : World} {g bq bp : Nat} {z q : Pk} {W : World} (h : QR w g bq bp z q W) (q2 : Pk) : QR w g bq bp z q2 (W.setRow bp q2.cells) :=
  ⟨(setRow_other _ _ _ _ (by have := h.lt2; omega)).trans h.res, Blk.row h.box _ rfl, h.lt1, h.lt2, below_setRow h.below (by have := h.lt1; have := h.lt2; omega) _⟩
theorem QR.fin {w : World} {g bq bp : Nat} {z q : Pk} {W : World} (h : QR w g bq bp z q W) (z2 : Pk) : QR w g bq bp z2 q (W.setRow bq z2.cells) :=
  ⟨Blk.row h.res _ rfl, (setRow_other _ _ _ _ (by have := h.lt2; omega)).trans h.box, h.lt1, h.lt2, below_setRow h.below (by have := h.lt1; omega) _⟩
/-- How what is behind is read. -/
def GetPost (P : Pk) (r : List UInt8) (W : World) (g : Nat) (e : Ending) (w' : World) : Prop :=
  ∃ q, e = .returned (.tuple #[pval q, .int .i64 ((tE P r : Nat) : Int)]) ∧ Hid (RStep W w' g) ∧
    Hid (tE P r = 0 → RR w' g (0, tR P r) ∧ ∃ ad cap, q = memP (tP P r) ad cap ∧ RdB w' ad (tP P r).body ∧ ((tP P r).kind = 4 ∨ (tP P r).kind = 6 → ad = none → cap = 0))
def GetAt (P : Pk) (r : List UInt8) (fr : Nat) : Prop := ∀ W g, RR W g (0, r) → Calls Tryz.prog fr #[.pointer (some ⟨g, 0, none⟩), pval P] W (GetPost P r W g)
/-- What reading to the end hands back. -/
def ReadP (P : Pk) (n : Nat) (w : World) (g : Nat) (e : Ending) (w' : World) : Prop :=
  ∃ q, e = .returned (.tuple #[pval q, .int .i64 ((n : Nat) : Int)]) ∧ Hid (Below g w w') ∧
    Hid (n = 0 → ∃ ad cap, q = memP P ad cap ∧ RdB w' ad P.body ∧ (P.kind = 4 ∨ P.kind = 6 → ad = none → cap = 0))
set_option maxRecDepth 100000 in
set_option maxHeartbeats 2000000 in
theorem read_head (g : Nat) (l : List UInt8) (w : World) (h : RR w g (0, l)) (he : (rg l).2.2 ≠ 0) :
    Calls Tryz.prog 23 #[.pointer (some ⟨g, 0, none⟩)] w (ReadP (sdP l) (sdE l) w g) := by
  have hE : sdE l = (rg l).2.2 := by unfold sdE; rw [if_pos he]
  obtain ⟨wb, hwb⟩ : ∃ wb, Hid (wb = w.alloc (.cells (Pk.cells zero) 27)) := ⟨_, Lib.hid rfl⟩
  have HX := Lib.hid (one_box w wb _ _ hwb.out)
  have hg := h.lt
  have CH : Hid (Calls Tryz.prog 56 #[.pointer (some ⟨g, 0, none⟩)] wb fun e w' => e = .returned (.tuple #[pval (rg l).1, .int .i64 (((rg l).2.2 : Nat) : Int)]) ∧ Hid (RStep wb w' g)) := Lib.hid ((hget_any g (0, l) wb (h.kept HX.out.1)).mono fun e w' hp => by
    rw [ht_rg] at hp
    exact ⟨hp.1, Lib.hid hp.2.2⟩)
  rw [hE]
  generalize sdP l = P at *
  generalize (rg l).1 = q at *
  obtain ⟨n, hn⟩ : ∃ n, (rg l).2.2 = n := ⟨_, rfl⟩
  rw [hn] at he CH ⊢
  have HN : ((n : Int) == 0) = false := by simp; omega
  have HG := Lib.hid hg
  clear h hE hn
  unfold Pk.cells zero at hwb
  simp only [List.length_nil] at hwb
  go_enter Tryz.func23, Tryz.ntmps23
  go_upto_region 1 with fail
  rw [← hwb.out]
  go_wp2_with fail
  refine (CH.out).mono ?_; rintro e w2 ⟨rfl, HS2⟩
  go_upto_region 2 with (refine store_pk rfl _ _ rfl w2.heap.size q rfl rfl #[.int .i64 0, .int .i64 0, .int .i64 0, .int .u32 0, .int .i64 0, .int .i64 0, .int .i64 0, .int .i64 0, .int .i64 0, .int .i64 0, .int .i64 0, .slice none 0 0] (heap_alloc_last w2 _) rfl ?_)
  obtain ⟨W3, hW3⟩ : ∃ W3, Hid (W3 = (w2.alloc (.cells #[.int .i64 0, .int .i64 0, .int .i64 0, .int .u32 0, .int .i64 0, .int .i64 0, .int .i64 0, .int .i64 0, .int .i64 0, .int .i64 0, .int .i64 0, .slice none 0 0] 27)).setRow w2.heap.size q.cells) := ⟨_, Lib.hid rfl⟩
  rw [← hW3.out]
  have HQ3 : Hid (QR w g w.heap.size w2.heap.size zero q W3) := Lib.hid (by
    have hs := HS2.out.below.size
    have h1 : QR w g w.heap.size w2.heap.size zero zero (w2.alloc (.cells #[.int .i64 0, .int .i64 0, .int .i64 0, .int .u32 0, .int .i64 0, .int .i64 0, .int .i64 0, .int .i64 0, .int .i64 0, .int .i64 0, .int .i64 0, .slice none 0 0] 27)) := ⟨Blk.alloc (show Blk w2 w.heap.size _ _ from (HS2.out.block _ HG.out HX.out.2.lt).trans HX.out.2) _, Blk.new w2 _ _, HG.out, by have := HS2.out.below.size; have := HX.out.2.lt; omega, ((HX.out.1.mono (by have := HG.out; omega)).trans HS2.out.below).alloc (by have := HG.out; have := HX.out.1.size; omega) _⟩
    rw [hW3.out]
    exact h1.put q)
  clear hW3 HS2 CH
  go_wp2_with (first
    | (refine load_pk rfl _ rfl w2.heap.size rfl q HQ3.out.box ?_)
    | (refine store_pk rfl _ _ rfl w.heap.size q rfl rfl _ HQ3.out.res rfl ?_))
  exact bodyPost_ret (results_pk2 rfl _ _ w.heap.size q.cells _ rfl rfl (HQ3.out.fin q).res rfl) rfl (by unfold ReadP; exact ⟨q, rfl, Lib.hid (HQ3.out.fin q).below, Lib.hid (fun h => absurd h he)⟩)
set_option maxRecDepth 100000 in
set_option maxHeartbeats 2000000 in
theorem read_fn (g : Nat) (l : List UInt8) (w : World) (h : RR w g (0, l)) (he : (rg l).2.2 = 0) (fg fp fr : Nat) (CR : ∀ W, Calls Tryz.prog 13 #[.int .i64 (rg l).1.kind] W (RPs (fcs fg fp fr) true W))
    (er : ∀ args w, (callFunc fr args).run Tryz.prog w = .ok (.enter fr args) w) (Cr : GetAt (rg l).1 (rg l).2.1 fr) :
    Calls Tryz.prog 23 #[.pointer (some ⟨g, 0, none⟩)] w (ReadP (sdP l) (sdE l) w g) := by
  have hE : sdE l = if tE (rg l).1 (rg l).2.1 ≠ 0 then tE (rg l).1 (rg l).2.1 else if tR (rg l).1 (rg l).2.1 = [] then 0 else 5 := by unfold sdE; rw [if_neg (by simp [he])]
  have hP : sdP l = tP (rg l).1 (rg l).2.1 := rfl
  obtain ⟨wb, hwb⟩ : ∃ wb, Hid (wb = w.alloc (.cells (Pk.cells zero) 27)) := ⟨_, Lib.hid rfl⟩
  have HX := Lib.hid (one_box w wb _ _ hwb.out)
  have HG := Lib.hid h.lt
  have CH : Hid (Calls Tryz.prog 56 #[.pointer (some ⟨g, 0, none⟩)] wb fun e w' => e = .returned (.tuple #[pval (rg l).1, .int .i64 0]) ∧ Hid (RR w' g (0, (rg l).2.1)) ∧ Hid (RStep wb w' g)) := Lib.hid ((hget_any g (0, l) wb (h.kept HX.out.1)).mono fun e w' hp => by
    rw [ht_rg, gt_rest l he, he] at hp
    exact ⟨hp.1, Lib.hid hp.2.1, Lib.hid hp.2.2⟩)
  have CR := Lib.hid CR
  have CG : Hid (∀ W, RR W g (0, (rg l).2.1) → Calls Tryz.prog fr #[.pointer (some ⟨g, 0, none⟩), pval (rg l).1] W (GetPost (rg l).1 (rg l).2.1 W g)) := Lib.hid (fun W hW => Cr W g hW)
  have HO : Hid ((fcs fg fp fr).all (·.oneCell') = true) := Lib.hid (by simp [fcs, Value.oneCell'])
  unfold GetPost at CG
  rw [hE, hP]
  clear h hE hP Cr he
  generalize tE (rg l).1 (rg l).2.1 = en at *
  generalize tP (rg l).1 (rg l).2.1 = P at *
  generalize tR (rg l).1 (rg l).2.1 = R at *
  generalize (rg l).1 = q at *
  generalize (rg l).2.1 = r at *
  obtain ⟨eo, hEE⟩ : ∃ eo, (if en ≠ 0 then en else if R = [] then 0 else 5) = eo := ⟨_, rfl⟩
  rw [hEE]
  have HE1 : Hid (en ≠ 0 → eo = en) := Lib.hid (fun h => by rw [← hEE, if_pos h])
  have HE0 : Hid (en = 0 → eo = if R = [] then 0 else 5) := Lib.hid (fun h => by rw [← hEE, if_neg (by simp [h])])
  clear hEE
  unfold fcs at CR HO
  unfold RPs at CR
  unfold Pk.cells zero at hwb
  simp only [List.length_nil] at hwb
  unfold pval at CH
  go_enter Tryz.func23, Tryz.ntmps23
  go_upto_region 1 with fail
  rw [← hwb.out]
  go_wp2_with fail
  refine (CH.out).mono ?_; rintro e w2 ⟨rfl, HR2, HS2⟩
  go_upto_region 2 with (refine store_pk rfl _ _ rfl w2.heap.size q rfl rfl #[.int .i64 0, .int .i64 0, .int .i64 0, .int .u32 0, .int .i64 0, .int .i64 0, .int .i64 0, .int .i64 0, .int .i64 0, .int .i64 0, .int .i64 0, .slice none 0 0] (heap_alloc_last w2 _) rfl ?_)
  obtain ⟨W3, hW3⟩ : ∃ W3, Hid (W3 = (w2.alloc (.cells #[.int .i64 0, .int .i64 0, .int .i64 0, .int .u32 0, .int .i64 0, .int .i64 0, .int .i64 0, .int .i64 0, .int .i64 0, .int .i64 0, .int .i64 0, .slice none 0 0] 27)).setRow w2.heap.size q.cells) := ⟨_, Lib.hid rfl⟩
  rw [← hW3.out]
  have HQ3 : Hid (QR w g w.heap.size w2.heap.size zero q W3) := Lib.hid (by
    have hs := HS2.out.below.size
    have h1 : QR w g w.heap.size w2.heap.size zero zero (w2.alloc (.cells #[.int .i64 0, .int .i64 0, .int .i64 0, .int .u32 0, .int .i64 0, .int .i64 0, .int .i64 0, .int .i64 0, .int .i64 0, .int .i64 0, .int .i64 0, .slice none 0 0] 27)) := ⟨Blk.alloc (show Blk w2 w.heap.size _ _ from (HS2.out.block _ HG.out HX.out.2.lt).trans HX.out.2) _, Blk.new w2 _ _, HG.out, by have := HS2.out.below.size; have := HX.out.2.lt; omega, ((HX.out.1.mono (by have := HG.out; omega)).trans HS2.out.below).alloc (by have := HG.out; have := HX.out.1.size; omega) _⟩
    rw [hW3.out]
    exact h1.put q)
  have HR3 : Hid (RR W3 g (0, r)) := Lib.hid (HR2.out.kept (by rw [hW3.out]; exact below_setRow ((Below.refl _ _).alloc (Nat.le_refl _) _) (Nat.le_refl _) _))
  clear hW3 HS2 CH HR2 hwb
  have hk : W3.cell? ⟨w2.heap.size, 0, none⟩ = some (.int .i64 q.kind) := HQ3.out.box.cell 0
  go_wp2_with fail
  refine (CR.out _).mono ?_; rintro e w4 ⟨rfl, hB4⟩
  have HB4 := Lib.hid hB4
  clear hB4 hk CR
  go_upto_region 5 with (refine wpList_store_row rfl 42 _ _ rfl w4.heap.size #[.func (.func fg) #[] #[], .func (.func fp) #[] #[], .func (.func fr) #[] #[]] rfl rfl 42 #[.nilFunc, .nilFunc, .nilFunc] (heap_alloc_last w4 _) infoRest rfl HO.out ?_)
  obtain ⟨W5, hW5⟩ : ∃ W5, Hid (W5 = (w4.alloc (.cells #[.nilFunc, .nilFunc, .nilFunc] 42)).setRow w4.heap.size #[.func (.func fg) #[] #[], .func (.func fp) #[] #[], .func (.func fr) #[] #[]]) := ⟨_, Lib.hid rfl⟩
  rw [← hW5.out]
  have HB5 : Hid (Below W3.heap.size W3 W5) := Lib.hid (by rw [hW5.out]; exact below_setRow (HB4.out.alloc HB4.out.size _) HB4.out.size _)
  have k2 : W5.cell? ⟨w4.heap.size, 2, none⟩ = some (.func (.func fr) #[] #[]) := by rw [hW5.out]; exact (Blk.row (Blk.new w4 42 #[.nilFunc, .nilFunc, .nilFunc]) #[.func (.func fg) #[] #[], .func (.func fp) #[] #[], .func (.func fr) #[] #[]] rfl).cell 2
  have HQ5 := Lib.hid (HQ3.out.kept HB5.out)
  have CG5 := Lib.hid (CG.out W5 (HR3.out.kept HB5.out))
  clear HO hW5 HB4 HQ3 HR3 CG HB5
  go_upto_region 8 with (first
    | (refine load_pk rfl _ rfl w2.heap.size rfl q HQ5.out.box ?_)
    | (go_at_fn fr; refine CG5.out.mono ?_; rintro e w6 ⟨q6, rfl, HS6, HK6⟩; have HQ6 := Lib.hid (HQ5.out.step HS6.out))
    | (refine store_pk rfl _ _ rfl w2.heap.size q6 rfl rfl _ HQ6.out.box rfl ?_))
  have HQ7 := Lib.hid (HQ6.out.put q6)
  have HF7 : Hid (∀ k, k ≠ w2.heap.size → (w6.setRow w2.heap.size q6.cells).heap[k]? = w6.heap[k]?) := Lib.hid (fun k hk => setRow_other _ _ _ _ hk)
  have HD7 : Hid (∀ ad l, RdB w6 ad l → RdB (w6.setRow w2.heap.size q6.cells) ad l) := Lib.hid (fun ad l hr => rd_setRow hr HQ6.out.box)
  generalize w6.setRow w2.heap.size q6.cells = W7 at *
  clear k2 CG5 HQ5 HS6
  by_cases hen : en = 0
  · subst hen
    obtain ⟨hr6, ad, cap, rfl, hd6, hn6⟩ := HK6.out rfl
    have HR7 : Hid (RR W7 g (0, R)) := Lib.hid (hr6.behind (fun b hb => HF7.out b (by have := HQ6.out.lt1; have := HQ6.out.lt2; omega)))
    have HD := Lib.hid (HD7.out _ _ hd6)
    have HN := Lib.hid hn6
    have CE : Hid (Calls Tryz.prog 57 #[.pointer (some ⟨g, 0, none⟩)] W7.drew fun e w' => e = .returned (.int .i64 ((eo : Nat) : Int)) ∧ W7.drew = w') := Lib.hid ((end_any g (0, R) W7.drew (HR7.out.kept (Below.refl _ _).drew)).mono fun e w' hp => ⟨hp.1.trans (by rw [HE0.out rfl]; simp only; split <;> rfl), hp.2⟩)
    clear hr6 hd6 hn6 HK6 HF7 HD7 HQ6
    go_upto_region 10 with fail
    refine wp_region_held_drew (S := fun W => Blk W w2.heap.size 27 (memP P ad cap).cells) (by kernel_rfl) ?_ (fun hHeld => ?_)
    · exact HQ7.out.box.drewN 1
    refine wpAnyH_take (i := 0) (v := pval (memP P ad cap)) rfl (by kernel_rfl) (by kernel_rfl) (by kernel_rfl) (fun _ _ _ h => h) (yields_pk rfl _ rfl w2.heap.size rfl _ (fun _ h => h)) (by assumption) ?_
    refine wpAnyH_take (i := 1) (v := .pointer (some ⟨g, 0, none⟩)) rfl (by kernel_rfl) (by kernel_rfl) (by kernel_rfl) (fun _ _ _ h => h) (Or.inl ⟨by kernel_rfl, by intro w hSw; clear hSw; go_simp; try with_reducible rfl⟩) (by assumption) ?_
    refine wpAnyH_ready (rs := [2]) (by kernel_rfl) (by simp) ?_
    refine AllReadyH.cons rfl (fun K hK => ?_) ?_
    · go_simp
      go_wp2_with (go_at_call 57; refine (CE.out).mono ?_; rintro e w' ⟨rfl, rfl⟩)
      refine hK.out _ _ ?_ (fun hHeld => ?_)
      · exact HQ7.out.box.drewN 1
      clear hK K
      refine wpAnyH_ready (rs := [3]) (by kernel_rfl) (by simp) ?_
      refine AllReadyH.cons rfl (fun K hK => ?_) ?_
      · refine step_store_pk rfl _ _ rfl w.heap.size (memP P ad cap) ?_ ?_ _ (HQ7.out.res.drewN 1) rfl ?_
        · simp [Act.eval, Act.put]
        · simp [Act.eval, Act.put]
        refine hK.out _ _ ?_ (fun hHeld => ?_)
        · exact ((HQ7.out.fin (memP P ad cap)).box).drewN 1
        clear hK K
        refine wpAnyH_ready (rs := [4]) (by kernel_rfl) (by simp) ?_
        refine AllReadyH.cons rfl (fun K hK => ?_) ?_
        · go_simp
          refine hK.out _ _ ?_ (fun hHeld => ?_)
          · exact ((HQ7.out.fin (memP P ad cap)).box).drewN 1
          clear hK K
          refine wpAnyH_done (by kernel_rfl) ?_ _
          go_wp2_with fail
          have HQ8 := Lib.hid (HQ7.out.kept (Below.refl _ _).drew)
          have HD8 := Lib.hid (rd_setRow (es := (memP P ad cap).cells) (HD.out.below (Below.refl _ _).drew) HQ8.out.res)
          exact bodyPost_ret (results_pk2 rfl _ _ w.heap.size (memP P ad cap).cells _ rfl rfl (HQ8.out.fin (memP P ad cap)).res rfl) rfl (by unfold ReadP; exact ⟨_, rfl, Lib.hid (HQ8.out.fin (memP P ad cap)).below, Lib.hid (fun h => ⟨ad, cap, rfl, HD8.out, HN.out⟩)⟩)
        exact AllReadyH.nil
      exact AllReadyH.nil
    exact AllReadyH.nil
  · have HN : ((en : Int) == 0) = false := by simp; omega
    obtain rfl := HE1.out hen
    go_wp2_with (first
      | (refine load_pk rfl _ rfl w2.heap.size rfl q6 HQ7.out.box ?_)
      | (refine store_pk rfl _ _ rfl w.heap.size q6 rfl rfl _ HQ7.out.res rfl ?_))
    exact bodyPost_ret (results_pk2 rfl _ _ w.heap.size q6.cells _ rfl rfl (HQ7.out.fin q6).res rfl) rfl (by unfold ReadP; exact ⟨q6, rfl, Lib.hid (HQ7.out.fin q6).below, Lib.hid (fun h => absurd h hen)⟩)
set_option maxRecDepth 100000 in
set_option maxHeartbeats 2000000 in
/-- A packet read to the end of its bytes. -/
theorem read_pk (g : Nat) (l : List UInt8) (w : World) (h : RR w g (0, l)) :
    Calls Tryz.prog 23 #[.pointer (some ⟨g, 0, none⟩)] w (ReadP (sdP l) (sdE l) w g) := by
  by_cases he : (rg l).2.2 = 0
  · obtain ⟨k, hh, t, f, q, e1, -, hgd, -⟩ := rg_inv l he
    have hk := gd_kind hgd
    have hb : (rg l).1.body = [] := by rw [e1]; rfl
    have had : (rg l).1.ad = none := by rw [e1]; rfl
    have hcap : (rg l).1.cap = 0 := by rw [e1]; rfl
    by_cases h4 : (rg l).1.kind = 4
    · refine read_fn g l w h he _ _ _ (fun W => rest_4 _ h4 W) (enters_of Tryz.func36 (by kernel_rfl) rfl) (fun W g2 hr => ?_)
      unfold GetPost tE tR tP
      rw [if_pos h4, if_pos h4, if_pos h4]
      by_cases hx : (getB (rg l).2.1 1024).2.2 = 0
      · have e := bytS_ok hx
        refine (dget_ok (rg l).1 g2 (0, (rg l).2.1) W hr (by rw [e])).mono fun en w' hp => ?_
        obtain ⟨ad, cap, rfl, ho, h1, h2⟩ := hp
        rw [e] at h1
        refine ⟨_, by rw [hx]; rfl, Lib.hid h2, Lib.hid fun _ => ⟨h1, ad, cap, rfl, ho.rd.1, fun _ => ho.pos.2.2.1⟩⟩
      · have e := bytS_bad hx
        refine (dget_bad (rg l).1 g2 (0, (rg l).2.1) W hr (by rw [e]; simp only; omega)).mono fun en w' hp => ?_
        rw [e] at hp
        exact ⟨zero, hp.1, Lib.hid hp.2.2, Lib.hid fun h0 => absurd h0 hx⟩
    · by_cases h5 : (rg l).1.kind = 5
      · refine read_fn g l w h he _ _ _ (fun W => rest_5 _ h5 W) (enters_of Tryz.func39 (by kernel_rfl) rfl) (fun W g2 hr => ?_)
        unfold GetPost tE tR tP
        rw [if_neg h4, if_neg h4, if_neg h4, if_pos h5, if_pos h5, if_pos h5]
        by_cases hx : Att.atE (rg l).2.1 = 0
        · refine (Att.uaget_ok (rg l).1 g2 (rg l).2.1 W hr hx (by rw [hb]; exact .inl rfl) (fun _ => hcap) (by rw [hb, hcap]; simp) (by rw [hcap]; omega)).mono fun en w' hp => ?_
          obtain ⟨ad, cap, rfl, h1, h2, h3⟩ := hp
          refine ⟨_, by rw [hx]; rfl, h3, Lib.hid fun _ => ⟨h2.out, ad, cap, rfl, h1.out, fun hh => ?_⟩⟩
          exfalso
          rcases hh with hh | hh
          · exact h4 hh
          · have : (rg l).1.kind = 6 := hh
            omega
        · exact (Att.uaget_bad (rg l).1 g2 (rg l).2.1 W hr hx).mono fun en w' hp => ⟨zero, hp.1, Lib.hid hp.2, Lib.hid fun h0 => absurd h0 hx⟩
      · by_cases h6 : (rg l).1.kind = 6
        · refine read_fn g l w h he _ _ _ (fun W => rest_6 _ h6 W) (enters_of Tryz.func42 (by kernel_rfl) rfl) (fun W g2 hr => ?_)
          unfold GetPost tE tR tP
          rw [if_neg h4, if_neg h4, if_neg h4, if_neg h5, if_neg h5, if_neg h5, if_pos h6, if_pos h6, if_pos h6]
          by_cases hx : Chu.dE (rg l).2.1 = 0
          · refine (Chu.ucget_ok (rg l).1 g2 (rg l).2.1 W hr hx).mono fun en w' hp => ?_
            obtain ⟨ad, cap, rfl, ho, h2, h3⟩ := hp
            exact ⟨_, by rw [hx]; rfl, h3, Lib.hid fun _ => ⟨h2.out, ad, cap, rfl, ho.out.rd.1, fun _ => ho.out.pos.2.2.1⟩⟩
          · exact (Chu.ucget_bad (rg l).1 g2 (rg l).2.1 W hr hx).mono fun en w' hp => ⟨zero, hp.1, Lib.hid hp.2, Lib.hid fun h0 => absurd h0 hx⟩
        · have h1 : (rg l).1.kind = 1 ∨ (rg l).1.kind = 2 ∨ (rg l).1.kind = 3 := by omega
          refine read_fn g l w h he _ _ _ (fun W => rest_123 _ h1 W) (enters_of Tryz.func33 (by kernel_rfl) rfl) (fun W g2 hr => ?_)
          obtain ⟨kt, -, -⟩ := tP_head (rg l).1 (rg l).2.1 none 0
          have kt : (tP (rg l).1 (rg l).2.1).kind = (rg l).1.kind := kt
          unfold GetPost tE tR
          rw [if_neg h4, if_neg h4, if_neg h5, if_neg h5, if_neg h6, if_neg h6]
          have hT : tP (rg l).1 (rg l).2.1 = Pul.filP (rg l).1 (0, (rg l).2.1) := by unfold tP; rw [if_neg h4, if_neg h5, if_neg h6]
          have hbb : (Pul.filP (rg l).1 (0, (rg l).2.1)).body = (rg l).1.body := by
            unfold Pul.filP
            split
            · rfl
            · split <;> rfl
          by_cases hx : Pul.rgE (rg l).1 (rg l).2.1 = 0
          · refine (Pul.upget_ok (rg l).1 g2 (rg l).2.1 W hr hx (by rw [hb]; exact .inl rfl) (fun _ => hcap) (by rw [hb, hcap]; simp) (by rw [hcap]; omega)).mono fun en w' hp => ?_
            obtain ⟨ad, cap, rfl, hp1, hp2, hp3⟩ := hp
            refine ⟨memP (tP (rg l).1 (rg l).2.1) ad cap, by rw [hx, hT]; rfl, hp3, Lib.hid fun _ => ⟨hp2.out, ad, cap, rfl, by rw [hT, hbb]; exact hp1.out, fun hh => ?_⟩⟩
            exfalso
            rw [kt] at hh
            omega
          · exact (Pul.upget_bad (rg l).1 g2 (rg l).2.1 W hr hx).mono fun en w' hp => ⟨zero, hp.1, Lib.hid hp.2, Lib.hid fun h0 => absurd h0 hx⟩
  · exact read_head g l w h he
end Go.Proofs.YtanfnhgaooafeaaGreatDoor.Sea
