/- Contracts of package mend (layer 27): Run; the statements' helper ours; slices of turns. -/
import Derived.Test.YtkcjllkhmncfdaaDoorMndB
import Derived.Test.YtkcjllkhmncfdaaDoorRowA
import Derived.Test.YtkcjllkhmncfdaaDoorTrmC
namespace Go.Proofs.YtkcjllkhmncfdaaDoor.Mnd
open Go.ChangeShapes Go.WideShapes Go.ChangeAt Go.RowKit
open I64s (Sl OwnL ListPost app_one)
open Nodes (Tabs)
set_option linter.unusedVariables false
set_option linter.unusedSimpArgs false
/-- A turn as it lies in memory. -/
structure Tn where
  s : Nat
  ea : Option Addr
  ec : Nat
  rs : List Rw
  da : Option Addr
  dc : Nat
  ds : List Int
instance : Inhabited Tn := ⟨⟨0, none, 0, [], none, 0, []⟩⟩
def encT (t : Tn) : List Value := [.int .u64 (t.s : Int), .slice t.ea t.rs.length t.ec, .slice t.da t.ds.length t.dc]
theorem encT_len (t : Tn) : (encT t).length = 3 := rfl
structure OkT (w : World) (t : Tn) : Prop where
  s : t.s < 18446744073709551616
  ll : LL w t.ea t.rs
  sl : Sl w t.da t.dc t.ds
theorem OkT.below {w W : World} {t : Tn} (h : OkT w t) (hB : Below w.heap.size w W) : OkT W t := ⟨h.s, h.ll.below hB, h.sl.below hB⟩
def RdT (w : World) (ad : Option Addr) (l : List Tn) : Prop := Rw.Rd encT 3 w ad l
theorem rdT_at {w : World} {ad : Option Addr} {l : List Tn} (h : RdT w ad l) {i : Nat} (hi : i < l.length) : ∃ b off, ad = some ⟨b, off, none⟩ ∧ b < w.heap.size ∧
    w.cell? ⟨b, off + i * 3, none⟩ = some (.int .u64 ((l.getD i default).s : Int)) ∧ w.cell? ⟨b, off + i * 3 + 1, none⟩ = some (.slice (l.getD i default).ea (l.getD i default).rs.length (l.getD i default).ec) ∧ w.cell? ⟨b, off + i * 3 + 2, none⟩ = some (.slice (l.getD i default).da (l.getD i default).ds.length (l.getD i default).dc) := by
  obtain ⟨b, off, e, hb, ha⟩ := Rw.Rd.at_ h hi
  exact ⟨b, off, e, hb, ha 0 _ rfl, ha 1 _ rfl, ha 2 _ rfl⟩
set_option maxHeartbeats 4000000 in
theorem run_any (adc : Option Addr) (capc : Nat) (c : List Int) (f : Int) (adl : Option Addr) (capl : Nat) (l : List Tn) (w : World)
    (hc : Sl w adc capc c) (hn : c.length ≤ 1000) (hl : RdT w adl l) (hok : ∀ t ∈ l, OkT w t) (hm : l.length ≤ 1000000) (hT : Tabs w) :
    Calls Tryd.prog 12 #[.slice adc c.length capc, .int .i64 f, .slice adl l.length capl] w fun e w' => (∃ ad cap, e = .returned (.slice ad c.length cap)) ∧ Below w.heap.size w w' := by
  obtain ⟨n, hnn⟩ : ∃ n, c.length = n := ⟨_, rfl⟩
  obtain ⟨m, hmm⟩ : ∃ m, l.length = m := ⟨_, rfl⟩
  have CC := Lib.hid (Trm.clone64_any adc capc c w hc hn)
  have CO : Hid (∀ W ad cap (zs : List Int) (t : Tn), Below w.heap.size w W → Sl W ad cap zs → zs.length = n → OkT w t → Calls Tryd.prog 6 #[.slice ad n cap, .agg #[.int .u64 (t.s : Int), .slice t.ea t.rs.length t.ec, .slice t.da t.ds.length t.dc], .int .i64 f] W
      fun e W' => ∃ ad' cap' zs', e = .returned (.slice ad' n cap') ∧ Sl W' ad' cap' zs' ∧ zs'.length = n ∧ Below W.heap.size W W') := Lib.hid (fun W ad cap zs t hB hs hz ht => by
    have ht' := ht.below hB
    have := one_any ad cap zs t.s t.ea t.ec t.rs t.da t.dc t.ds f W hs ht'.ll ht'.sl ht'.s (by omega) (hT.below hB)
    rw [hz] at this
    refine this.mono ?_
    rintro e W' ⟨ad', cap', rfl, ho, hb⟩
    have hlen : (oneL zs t.s (t.rs.map Rw.zs) t.ds f).length = n := by rw [oneL_len, hz]
    refine ⟨ad', cap', _, by rw [hlen], ?_, hlen, hb⟩
    exact ho.sl)
  have HA : Hid (∀ k, k < m → ∀ W, Below w.heap.size w W → ∃ b off, adl = some ⟨b, off, none⟩ ∧ W.cell? ⟨b, off + k * 3, none⟩ = some (.int .u64 ((l.getD k default).s : Int)) ∧ W.cell? ⟨b, off + k * 3 + 1, none⟩ = some (.slice (l.getD k default).ea (l.getD k default).rs.length (l.getD k default).ec) ∧ W.cell? ⟨b, off + k * 3 + 2, none⟩ = some (.slice (l.getD k default).da (l.getD k default).ds.length (l.getD k default).dc)) := Lib.hid (fun k hk W hB => by
    obtain ⟨b, off, e, hb, h1, h2, h3⟩ := rdT_at hl (i := k) (by omega)
    exact ⟨b, off, e, (hB.cell (p := ⟨b, off + k * 3, none⟩) hb).trans h1, (hB.cell (p := ⟨b, off + k * 3 + 1, none⟩) hb).trans h2, (hB.cell (p := ⟨b, off + k * 3 + 2, none⟩) hb).trans h3⟩)
  have HO : Hid (∀ k, k < m → OkT w (l.getD k default)) := Lib.hid (fun k hk => by
    have e : l.getD k default = l[k] := by simp [List.getD, show k < l.length by omega]
    rw [e]; exact hok _ (List.getElem_mem _))
  unfold ListPost at CC
  rw [hnn] at CC
  rw [hnn, hmm]
  clear hc hl hok hT
  go_enter Tryd.func12, Tryd.ntmps12
  go_wp2_with fail
  refine (CC.out).mono ?_; rintro e w1 ⟨ad1, cap1, rfl, hown1, hB1⟩
  have HC1 : Hid (∃ zs, Sl w1 ad1 cap1 zs ∧ zs.length = n) := Lib.hid ⟨c, hown1.sl, hnn⟩
  have HB1 := Lib.hid hB1
  clear hown1 hB1 CC hnn
  go_wp2_with fail
  go_loopw [13, 0] (fun i v wr => ∃ (k : Nat) (ad : Option Addr) (cap : Nat), k ≤ m ∧ i = .int .i64 k ∧ v = .slice ad n cap ∧ Hid (∃ zs, Sl wr ad cap zs ∧ zs.length = n) ∧ Hid (Below w.heap.size w wr)) (fun i _ _ => m - (intOf i).toNat)
  case atStart => exact ⟨0, ad1, cap1, Nat.zero_le _, rfl, rfl, HC1, HB1⟩
  case round =>
    clear HC1 HB1
    obtain ⟨k, ad, cap, hk, rfl, rfl, HC, HB⟩ := hrel
    by_cases hlt : k < m
    · obtain ⟨b, off, rfl, c0, c1, c2⟩ := HA.out k hlt wr HB.out
      have hok := HO.out k hlt
      generalize l.getD k default = t at *
      have C1 : Hid (∀ o : Obj, Calls Tryd.prog 6 #[.slice ad n cap, .agg #[.int .u64 (t.s : Int), .slice t.ea t.rs.length t.ec, .slice t.da t.ds.length t.dc], .int .i64 f] (wr.alloc o)
          fun e W' => ∃ ad' cap' zs', e = .returned (.slice ad' n cap') ∧ Sl W' ad' cap' zs' ∧ zs'.length = n ∧ Below wr.heap.size wr W') := Lib.hid (fun o => by
        obtain ⟨zs, hs, hz⟩ := HC.out
        have hA : Below wr.heap.size wr (wr.alloc o) := (Below.refl _ _).alloc (Nat.le_refl _) o
        refine (CO.out (wr.alloc o) ad cap zs t (HB.out.alloc HB.out.size o) (hs.below hA) hz hok).mono ?_
        rintro e W' ⟨ad', cap', zs', rfl, h1, h2, h3⟩
        exact ⟨ad', cap', zs', rfl, h1, h2, hA.trans (h3.mono hA.size)⟩)
      clear HC CO HA HO hok
      obtain ⟨s, ea, ec, rs, da, dc, ds⟩ := t
      simp only at c0 c1 c2 C1
      generalize rs.length = ne at *
      generalize ds.length = nd at *
      go_wp2_with fail
      refine (C1.out _).mono ?_; rintro e w2 ⟨ad', cap', zs', rfl, hs, hz, hb⟩
      have HC2 : Hid (∃ zs, Sl w2 ad' cap' zs ∧ zs.length = n) := Lib.hid ⟨zs', hs, hz⟩
      have HB2 := Lib.hid (HB.out.trans (hb.mono HB.out.size))
      clear hs hz hb C1
      go_wp2_with fail
      go_roundw
      case rel => exact ⟨k + 1, ad', cap', by omega, by go_num, rfl, HC2, HB2⟩
      case measure => simp [intOf]; omega
    · obtain rfl : k = m := by omega
      go_wp2_with fail
      go_ret
      exact ⟨⟨ad, cap, rfl⟩, HB.out⟩
end Go.Proofs.YtkcjllkhmncfdaaDoor.Mnd
