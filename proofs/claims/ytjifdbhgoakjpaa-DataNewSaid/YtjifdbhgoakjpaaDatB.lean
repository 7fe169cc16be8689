/- A body of one's own, a packet made (layer 10): own, New; the document's New. -/
import Derived.Test.YtjifdbhgoakjpaaDatA
import Derived.Test.YtjifdbhgoakjpaaHedE
import Derived.Test.YtjifdbhgoakjpaaHedF
import Derived.Test.YtjifdbhgoakjpaaHedI
import Derived.Deep.RegionHeldLaw
import Derived.Deep.RegionWith
namespace Go.Proofs.Ytjifdbhgoakjpaa.Dat
open Go.ChangeShapes Go.WideShapes Go.ChangeAt Go.RowKit Go.Deep
open Go.Proofs.Ytjifdbhgoakjpaa.Byt Go.Proofs.Ytjifdbhgoakjpaa.Key Go.Proofs.Ytjifdbhgoakjpaa.Buf Go.Proofs.Ytjifdbhgoakjpaa.Hed
set_option linter.unusedVariables false
set_option linter.unusedSimpArgs false
section
variable {H : Type} {enc0 : TypeId × Value → H} {w : World}
/-- A key that came in. -/
theorem open_k {r : Reach} {b0 : Nat} {v : Value} {d : DataW H} {pl : List MemPlace} (hv : Value.okWide Try.prog w r b0 24 v) (h : DataW.Trod enc0 Try.prog w 0 (fun _ => true) true 24 v d pl) : ∃ t : Ky, v = kval t ∧ Key.ok t := by
  obtain ⟨cs, rfl, hs⟩ := okWide_struct Try.underlying24 hv
  obtain ⟨n, hn⟩ := h
  obtain ⟨t, ht, hok⟩ := open_kcells hn
  refine ⟨t, ?_, hok⟩
  unfold kval
  congr 1
  exact Array.toList_inj.1 ht
end
/-- Nothing but block g differs. -/
structure Away (g : Nat) (w w' : World) : Prop where
  os : w'.os = w.os
  tape : w'.tape = w.tape
  output : w'.output = w.output
  size : w'.heap.size = w.heap.size
  block : ∀ k, k ≠ g → w'.heap[k]? = w.heap[k]?
theorem Away.refl (g : Nat) (w : World) : Away g w w := ⟨rfl, rfl, rfl, rfl, fun _ _ => rfl⟩
theorem Away.set {g : Nat} {w W : World} (h : Away g w W) (i : Nat) (v : Value) : Away g w (W.setCell ⟨g, i, none⟩ v) := by
  have hB := (Below.refl g W).setCell (p := ⟨g, i, none⟩) (Nat.le_refl g) v
  exact ⟨hB.os.trans h.os, hB.tape.trans h.tape, hB.output.trans h.output, by simp [h.size], fun k hk => (heap_setCell_other _ _ _ _ hk).trans (h.block k hk)⟩
theorem Away.below {g B : Nat} {w w' : World} (h : Away g w w') (hg : B ≤ g) : Below B w w' := ⟨h.os, h.tape, h.output, Nat.le_of_eq h.size.symm, fun k hk => h.block k (by omega)⟩
theorem Away.own {g base : Nat} {w w' : World} {v : Value} {l : List UInt8} (h : Away g w w') (ho : OwnB w base v l) (hg : g < base) : OwnB w' base v l :=
  own_kept ho (Nat.le_of_eq h.size.symm) fun k hk => h.block k (by have := own_at ho hk; omega)
/-- A block's cells may be written. -/
theorem blk_free {W : World} {b : Nat} {t : TypeId} {cs : Array Value} (h : Blk W b t cs) : W.frozen? ⟨b, 0, none⟩ = false ∧ W.frozen? ⟨b, 1, none⟩ = false ∧ W.frozen? ⟨b, 2, none⟩ = false ∧ W.frozen? ⟨b, 3, none⟩ = false ∧ W.frozen? ⟨b, 4, none⟩ = false ∧ W.frozen? ⟨b, 5, none⟩ = false ∧ W.frozen? ⟨b, 6, none⟩ = false ∧ W.frozen? ⟨b, 7, none⟩ = false ∧ W.frozen? ⟨b, 8, none⟩ = false ∧ W.frozen? ⟨b, 9, none⟩ = false ∧ W.frozen? ⟨b, 10, none⟩ = false ∧ W.frozen? ⟨b, 11, none⟩ = false :=
  ⟨h.free 0, h.free 1, h.free 2, h.free 3, h.free 4, h.free 5, h.free 6, h.free 7, h.free 8, h.free 9, h.free 10, h.free 11⟩
/-- Twelve cells written, one after another. -/
theorem row12 {w : World} {g : Nat} {t : TypeId} (p : Pk) (h : Blk w g t p.cells) (v0 v1 v2 v3 v4 v5 v6 v7 v8 v9 v10 v11 : Value) : Blk ((((((((((((w.setCell ⟨g, 0, none⟩ v0).setCell ⟨g, 1, none⟩ v1).setCell ⟨g, 2, none⟩ v2).setCell ⟨g, 3, none⟩ v3).setCell ⟨g, 4, none⟩ v4).setCell ⟨g, 5, none⟩ v5).setCell ⟨g, 6, none⟩ v6).setCell ⟨g, 7, none⟩ v7).setCell ⟨g, 8, none⟩ v8).setCell ⟨g, 9, none⟩ v9).setCell ⟨g, 10, none⟩ v10).setCell ⟨g, 11, none⟩ v11) g t #[v0, v1, v2, v3, v4, v5, v6, v7, v8, v9, v10, v11] ∧ Away g w ((((((((((((w.setCell ⟨g, 0, none⟩ v0).setCell ⟨g, 1, none⟩ v1).setCell ⟨g, 2, none⟩ v2).setCell ⟨g, 3, none⟩ v3).setCell ⟨g, 4, none⟩ v4).setCell ⟨g, 5, none⟩ v5).setCell ⟨g, 6, none⟩ v6).setCell ⟨g, 7, none⟩ v7).setCell ⟨g, 8, none⟩ v8).setCell ⟨g, 9, none⟩ v9).setCell ⟨g, 10, none⟩ v10).setCell ⟨g, 11, none⟩ v11) := by
  refine ⟨?_, ?_⟩
  · unfold Pk.cells at h
    have h := h.put 0 v0
    simp only [List.setIfInBounds_toArray, List.set_cons_zero, List.set_cons_succ] at h
    have h := h.put 1 v1
    simp only [List.setIfInBounds_toArray, List.set_cons_zero, List.set_cons_succ] at h
    have h := h.put 2 v2
    simp only [List.setIfInBounds_toArray, List.set_cons_zero, List.set_cons_succ] at h
    have h := h.put 3 v3
    simp only [List.setIfInBounds_toArray, List.set_cons_zero, List.set_cons_succ] at h
    have h := h.put 4 v4
    simp only [List.setIfInBounds_toArray, List.set_cons_zero, List.set_cons_succ] at h
    have h := h.put 5 v5
    simp only [List.setIfInBounds_toArray, List.set_cons_zero, List.set_cons_succ] at h
    have h := h.put 6 v6
    simp only [List.setIfInBounds_toArray, List.set_cons_zero, List.set_cons_succ] at h
    have h := h.put 7 v7
    simp only [List.setIfInBounds_toArray, List.set_cons_zero, List.set_cons_succ] at h
    have h := h.put 8 v8
    simp only [List.setIfInBounds_toArray, List.set_cons_zero, List.set_cons_succ] at h
    have h := h.put 9 v9
    simp only [List.setIfInBounds_toArray, List.set_cons_zero, List.set_cons_succ] at h
    have h := h.put 10 v10
    simp only [List.setIfInBounds_toArray, List.set_cons_zero, List.set_cons_succ] at h
    have h := h.put 11 v11
    simp only [List.setIfInBounds_toArray, List.set_cons_zero, List.set_cons_succ] at h
    exact h
  · have h := Away.refl g w
    have h := h.set 0 v0
    have h := h.set 1 v1
    have h := h.set 2 v2
    have h := h.set 3 v3
    have h := h.set 4 v4
    have h := h.set 5 v5
    have h := h.set 6 v6
    have h := h.set 7 v7
    have h := h.set 8 v8
    have h := h.set 9 v9
    have h := h.set 10 v10
    have h := h.set 11 v11
    exact h
/-- The result out of a packet's cell. -/
theorem results_pk1 {fn : Func} {i : Nat} (h : fn.results = #[.cell i 27]) (tmps : Array Value) (w : World) (g : Nat) (cs : Array Value)
    (hp : tmps.getD i undef = .pointer (some ⟨g, 0, none⟩)) (hg : Blk w g 27 cs) (hs : cs.size = 12) :
    (results fn tmps).run Try.prog w = .ok (.agg cs) w := by
  have hp' : tmps[i]?.getD undef = .pointer (some ⟨g, 0, none⟩) := by simpa using hp
  simp [results, h, hp', asAddr, run_loadVar_row w g 27 _ cs (0, 0) _ hg Try.underlying27 rfl (by rw [hs]; exact infoPk)]
/-- Two boxes that the call laid. -/
theorem boxes_tt (w w0 : World) (c d : Array Value) (t t' : TypeId) (h : w0 = (w.alloc (.cells c t)).alloc (.cells d t')) :
    Below w.heap.size w w0 ∧ Blk w0 w.heap.size t c ∧ Blk w0 (w.heap.size + 1) t' d := by
  subst h
  refine ⟨((Below.refl _ _).alloc (Nat.le_refl _) _).alloc (by simp) _, (Blk.new w _ _).alloc _, ?_⟩
  have := Blk.new (w.alloc (.cells c t)) t' d
  rw [World.size_alloc] at this
  exact this
/-- A packet of kind data. -/
def mk4 (k : Ky) (h : Int) (ad : Option Addr) (cap : Nat) (body : List UInt8) : Pk := ⟨4, k, h, 0, 0, 0, 0, 0, 0, ad, cap, body⟩
set_option maxRecDepth 100000 in
theorem own_any (ad : Option Addr) (len cap : Nat) (l : List UInt8) (w : World) (hlen : l.length = len) (hle : len ≤ cap) (hm : len ≤ 140737488355328) (hc : cap ≤ 9223372036854775807) (hr : RdB w ad l) :
    Calls Try.prog 25 #[.slice ad len cap] w fun e w' => ∃ ad' cap', e = .returned (.slice ad' len cap') ∧ OwnB w' w.heap.size (.slice ad' len cap') l ∧ Below w.heap.size w w' := by
  rcases hr with h0 | ⟨b, off, e, hcell⟩
  · subst h0
    obtain rfl : len = 0 := hlen.symm
    clear hlen hle hm hc
    go_enter Try.func25, Try.ntmps25
    go_wp2_with fail
    go_ret
    exact ⟨none, 0, rfl, World.ownsRow_nil _ _ _ _, Below.refl _ _⟩
  · subst e
    by_cases hz : len = 0
    · subst hz
      obtain rfl : l = [] := List.eq_nil_of_length_eq_zero hlen
      clear hlen hle hm hc hcell
      go_enter Try.func25, Try.ntmps25
      go_wp2_with fail
      go_ret
      exact ⟨none, 0, rfl, World.ownsRow_nil _ _ _ _, Below.refl _ _⟩
    · have hlz : ((len : Int) == 0) = false := by simp; omega
      have c2 : Hid (RdB w (some ⟨b, off, none⟩) l) := Lib.hid (.inr ⟨b, off, rfl, hcell⟩)
      have c3 := Lib.hid hlen
      have hcI : (0 : Int) ≤ (cap : Int) := by omega
      clear hcell
      go_enter Try.func25, Try.ntmps25
      go_wp2_with (at_builtin; refine three_step rfl _ _ rfl _ rfl ⟨b, off, none⟩ len cap l rfl c3.out.symm (by omega) c2.out hm ?_; intro ad' cap' w1 ho hB)
      go_ret
      exact ⟨ad', cap', rfl, ho, hB⟩
theorem rnew_any (k : Ky) (ad : Option Addr) (cap : Nat) (l : List UInt8) (w : World) :
    Calls Try.prog 8 #[kval k, .slice ad l.length cap] w fun e w' => e = .returned (pval (mk4 k 1 ad cap l)) ∧ Below w.heap.size w w' := by
  have HB : Hid (∀ o o', Below w.heap.size w ((w.alloc o).alloc o')) := Lib.hid (fun o o' => ((Below.refl _ _).alloc (Nat.le_refl _) o).alloc (by simp) o')
  obtain ⟨t, f, s⟩ := k
  unfold kval pval Pk.cells mk4
  obtain ⟨n, hn⟩ : ∃ n, l.length = n := ⟨_, rfl⟩
  simp only [hn]
  clear hn
  go_enter Try.func8, Try.ntmps8
  go_wp2_with fail
  go_returns
  exact ⟨rfl, HB.out _ _⟩
set_option maxRecDepth 100000 in
set_option maxHeartbeats 1000000 in
theorem dnew_any (k : Ky) (ad : Option Addr) (cap : Nat) (l : List UInt8) (w : World) (hle : l.length ≤ cap) (hm : l.length ≤ 140737488355328) (hc : cap ≤ 9223372036854775807) (hr : RdB w ad l) :
    Calls Try.prog 9 #[kval k, .slice ad l.length cap] w fun e w' => ∃ ad' cap', e = .returned (pval (mk4 k 1 ad' cap' l)) ∧ OwnB w' (w.heap.size + 2) (.slice ad' l.length cap') l ∧ Below w.heap.size w w' := by
  obtain ⟨wb, hwb⟩ : ∃ wb, Hid (wb = (w.alloc (.cells #[.int .i64 k.1, .int .i64 k.2.1, .int .u32 k.2.2] 24)).alloc (.cells (Pk.cells zero) 27)) := ⟨_, Lib.hid rfl⟩
  have HX := Lib.hid (boxes_tt w wb _ _ _ _ hwb.out)
  have HC : Hid (∀ W, Below wb.heap.size wb W → (_ ∧ _ ∧ _) ∧ _ ∧ _) := Lib.hid (fun W hW => ⟨⟨(HX.out.2.1.below hW).cell 0, (HX.out.2.1.below hW).cell 1, (HX.out.2.1.below hW).cell 2⟩, blk_cells (p := zero) (HX.out.2.2.below hW), blk_free (HX.out.2.2.below hW)⟩)
  have HS := Lib.hid (show wb.heap.size = w.heap.size + 2 by rw [hwb.out]; simp)
  have CO : Hid (∀ W, Below wb.heap.size wb W → Calls Try.prog 25 #[.slice ad l.length cap] W fun e w' => ∃ ad' cap', e = .returned (.slice ad' l.length cap') ∧ OwnB w' wb.heap.size (.slice ad' l.length cap') l ∧ Below wb.heap.size wb w') := Lib.hid (fun W hW => (own_any ad l.length cap l W rfl hle hm hc (hr.below (HX.out.1.trans (hW.mono HX.out.1.size)))).mono fun e w' h => by
    obtain ⟨ad', cap', rfl, h1, h2⟩ := h
    exact ⟨ad', cap', rfl, Own.mono h1 hW.size, hW.trans (h2.mono hW.size)⟩)
  obtain ⟨t, f, s⟩ := k
  unfold kval pval Pk.cells mk4
  unfold zero Pk.cells at hwb
  simp only at hwb HC ⊢
  obtain ⟨n, hn⟩ : ∃ n, l.length = n := ⟨_, rfl⟩
  simp only [hn, List.length_nil] at hwb CO ⊢
  unfold zero at HC
  simp only [List.length_nil, List.getElem?_toArray, List.getElem?_cons_succ, List.getElem?_cons_zero] at HC
  clear hn hr
  go_enter Try.func9, Try.ntmps9
  go_upto_region 1 with fail
  rw [← hwb.out]
  obtain ⟨⟨c0, c1, c2⟩, ⟨d0, d1, d2, d3, d4, d5, d6, d7, d8, d9, d10, d11⟩, f0, f1, f2, f3, f4, f5, f6, f7, f8, f9, f10, f11⟩ := HC.out wb (Below.refl _ _)
  refine wp_region_noPanic ?_
  go_region_with (go_at_call 25; (with_reducible refine (CO.out _ ?_).mono ?_); (first | assumption | exact (Below.refl _ _) | exact (Below.refl _ _).drew); rintro e w3 ⟨ad3, cap3, rfl, ho3, hB3⟩; obtain ⟨⟨c0, c1, c2⟩, ⟨d0, d1, d2, d3, d4, d5, d6, d7, d8, d9, d10, d11⟩, f0, f1, f2, f3, f4, f5, f6, f7, f8, f9, f10, f11⟩ := HC.out w3 hB3)
  all_goals
    refine NoPanic.normal ?_
    go_wp2_with fail
    obtain ⟨hb, ha⟩ := row12 zero (HX.out.2.2.below hB3) (.int .i64 4) (.int .i64 t) (.int .i64 f) (.int .u32 s) (.int .i64 1) (.int .i64 0) (.int .i64 0) (.int .i64 0) (.int .i64 0) (.int .i64 0) (.int .i64 0) (.slice ad3 n cap3)
    exact bodyPost_ret (results_pk1 rfl _ _ (w.heap.size + 1) _ rfl hb rfl) rfl ⟨ad3, cap3, rfl, ha.own (HS.out ▸ ho3) (by omega), HX.out.1.trans ((hB3.mono HX.out.1.size).trans (ha.below (by omega)))⟩
end Go.Proofs.Ytjifdbhgoakjpaa.Dat
