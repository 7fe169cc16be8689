/- The statements' helper ours of layer mend (27): the document's turns as the program's. -/
import Derived.Test.YtkcjllkhmncfdaaDoorMndR
import Derived.Deep.Cut
namespace Go.Proofs.YtkcjllkhmncfdaaDoor.Mnd
open Go.ChangeShapes Go.WideShapes Go.ChangeAt Go.RowKit
set_option linter.unusedVariables false
set_option linter.unusedSimpArgs false
def OwnT (W : World) (base : Nat) (v : Value) (l : List Tn) : Prop := Rw.OwnS encT 3 33 W base v l
theorem infoT : (Tryd.prog.info? 33).map (fun i => (i.zero, i.size, i.bytes)) = some (some (.agg #[.int .u64 0, .slice none 0 0, .slice none 0 0]), 3, 56) := by kernel_rfl
theorem tmp_cellsT (W : World) (t : Tn) (e : TypeId) : ∀ j u, (encT t)[j]? = some u → (W.alloc (.cells #[.int .u64 (t.s : Int), .slice t.ea t.rs.length t.ec, .slice t.da t.ds.length t.dc] e)).cell? ((⟨W.heap.size, 0, none⟩ : Addr).add j) = some u := fun j u h => by
  have := Rw.At.box (enc := encT) (e := e) W t _ rfl j u h
  rw [Addr.add_lit]
  exact this
/-- An append of one turn. -/
theorem app_T {wr : World} {ops : Array Oper} {rest : List Oper} {o : Oper} {a : Act} {Q : Exit → Act → World → Prop} (hgd : o.guard = none) (s x : Operand)
    (ho : o.op = .call { callee := .builtin .append, args := #[s, x], argTypes := #[45, 45] }) (base : Nat) (v : Value) (L : List Tn) (hs : a.eval s = v) (hown : OwnT wr base v L)
    (t : Tn) (hx : a.eval x = .slice (some ⟨wr.heap.size, 0, none⟩) 1 1) (hl : L.length ≤ 1000) (hbase : base ≤ wr.heap.size)
    (h : ∀ v' w', OwnT w' base v' (L ++ [t]) → Below base wr w' → wpList Tryd.prog ops Q rest (a.put o.dst v') w') :
    wpList Tryd.prog ops Q (o :: rest) a (wr.alloc (.cells #[.int .u64 (t.s : Int), .slice t.ea t.rs.length t.ec, .slice t.da t.ds.length t.dc] 33)) := by
  obtain ⟨i0, hi, hz0, hz1, hz2⟩ := info_parts infoT
  refine Own.wpList_append2 _ hgd s x 45 ho base 33 i0 (.agg #[.int .u64 0, .slice none 0 0, .slice none 0 0]) 3 56 Tryd.underlying45 hi hz0 hz1 hz2 rfl (by decide) v L.length (L.flatMap encT) hs (World.ownsRow.alloc hown _) ⟨wr.heap.size, 0, none⟩ 1 1 (encT t) hx rfl (tmp_cellsT wr t _) (by simp [encT, Value.oneCell']) (by unfold maxLen; omega) (by omega) (by rw [World.size_alloc]; omega) ?_
  intro v' w1 hown' hgrow _ _
  exact h v' w1 (Rw.OwnS.snoc encT_len hown') (Own.below_append hown hbase hgrow)
set_option maxRecDepth 100000 in
set_option maxHeartbeats 2000000 in
theorem ours_any (ad : Option Addr) (cap : Nat) (l : List Tn) (w : World) (h : RdT w ad l) (hm : l.length ≤ 1000) :
    Calls Tryd.prog 13 #[.slice ad l.length cap] w fun e w' => ∃ ad' cap', e = .returned (.slice ad' l.length cap') ∧ RdT w' ad' l ∧ Below w.heap.size w w' := by
  obtain ⟨m, hmm⟩ : ∃ m, l.length = m := ⟨_, rfl⟩
  have HA : Hid (∀ k, k < m → ∀ W, Below w.heap.size w W → ∃ b off, ad = some ⟨b, off, none⟩ ∧ W.cell? ⟨b, off + k * 3, none⟩ = some (.int .u64 ((l.getD k default).s : Int)) ∧ W.cell? ⟨b, off + k * 3 + 1, none⟩ = some (.slice (l.getD k default).ea (l.getD k default).rs.length (l.getD k default).ec) ∧ W.cell? ⟨b, off + k * 3 + 2, none⟩ = some (.slice (l.getD k default).da (l.getD k default).ds.length (l.getD k default).dc)) := Lib.hid (fun k hk W hB => by
    obtain ⟨b, off, e, hb, h1, h2, h3⟩ := rdT_at h (i := k) (by omega)
    exact ⟨b, off, e, (hB.cell (p := ⟨b, off + k * 3, none⟩) hb).trans h1, (hB.cell (p := ⟨b, off + k * 3 + 1, none⟩) hb).trans h2, (hB.cell (p := ⟨b, off + k * 3 + 2, none⟩) hb).trans h3⟩)
  have HS : Hid (∀ k, k < m → l.take k ++ [l.getD k default] = l.take (k + 1)) := Lib.hid (fun k hk => by
    rw [List.take_add_one]; simp [List.getD, show k < l.length by omega])
  have HLn : Hid (∀ k, k ≤ m → (l.take k).length = k) := Lib.hid (fun k hk => by rw [List.length_take]; omega)
  have HAll : Hid (l.take m = l) := Lib.hid (by rw [← hmm, List.take_length])
  rw [hmm] at hm ⊢
  clear h hmm
  go_enter Tryd.func13, Tryd.ntmps13
  go_wp2_with fail
  go_loopw [8, 3] (fun i v wr => ∃ (k : Nat), k ≤ m ∧ i = .int .i64 k ∧ Hid (OwnT wr w.heap.size v (l.take k)) ∧ Hid (Below w.heap.size w wr)) (fun i _ _ => m - (intOf i).toNat)
  case atStart => exact ⟨0, Nat.zero_le _, rfl, Lib.hid (Rw.OwnS.nil _ _), Lib.hid (Below.refl _ _)⟩
  case round =>
    obtain ⟨k, hk, rfl, HO, HB⟩ := hrel
    by_cases hlt : k < m
    · obtain ⟨b, off, rfl, c0, c1, c2⟩ := HA.out k hlt wr HB.out
      have hlen : (l.take k).length ≤ 1000 := by rw [HLn.out k hk]; omega
      have HSk := HS.out k hlt
      obtain ⟨t, ht⟩ : ∃ t, l.getD k default = t := ⟨_, rfl⟩
      rw [ht] at c0 c1 c2 HSk
      have HOA : Hid (∀ o : Obj, OwnT (wr.alloc o) w.heap.size u3 (l.take k)) := Lib.hid (fun o => Rw.OwnS.alloc HO.out o)
      have HBA : Hid (∀ o : Obj, Below w.heap.size w (wr.alloc o)) := Lib.hid (fun o => HB.out.alloc HB.out.size o)
      clear HA HS HLn HO
      obtain ⟨s, ea, ec, rs, da, dc, ds⟩ := t
      simp only at c0 c1 c2 ht
      obtain ⟨W0, hW0⟩ : ∃ W0, Hid (wr.alloc (.cells #[.int .u64 (s : Int), .slice ea rs.length ec, .slice da ds.length dc] 42) = W0) := ⟨_, Lib.hid rfl⟩
      have hbx := Rw.Blk.new wr 42 #[.int .u64 (s : Int), .slice ea rs.length ec, .slice da ds.length dc]
      have HO1 := HOA.out (.cells #[.int .u64 (s : Int), .slice ea rs.length ec, .slice da ds.length dc] 42)
      have HB1 := HBA.out (.cells #[.int .u64 (s : Int), .slice ea rs.length ec, .slice da ds.length dc] 42)
      go_upto_region 5 with fail
      rw [hW0.out] at hbx HO1 HB1 ⊢
      have q0 : W0.cell? ⟨wr.heap.size, 0, none⟩ = some (.int .u64 (s : Int)) := hbx.cell 0
      have q1 : W0.cell? ⟨wr.heap.size, 1, none⟩ = some (.slice ea rs.length ec) := hbx.cell 1
      have q2 : W0.cell? ⟨wr.heap.size, 2, none⟩ = some (.slice da ds.length dc) := hbx.cell 2
      have hsz := HB1.size
      have HB1' := Lib.hid HB1
      clear hW0 hbx HOA HBA HB1 c0 c1 c2 HB
      go_wp2_with (at_builtin; refine app_T rfl _ _ rfl w.heap.size _ _ rfl HO1 ⟨s, ea, ec, rs, da, dc, ds⟩ rfl hlen hsz ?_; intro v' w4 hown' hB4)
      rw [HSk] at hown'
      have HO4 := Lib.hid hown'
      have HB4 := Lib.hid (HB1'.out.trans hB4)
      clear hown' hB4
      go_roundw
      case rel => exact ⟨k + 1, by omega, by go_num, HO4, HB4⟩
      case measure => simp [intOf]; omega
    · obtain rfl : k = m := by omega
      have HO2 := HO.out
      rw [HAll.out] at HO2
      have hL := HLn.out k (Nat.le_refl _)
      rw [HAll.out] at hL
      obtain ⟨ad', cap', hv, -⟩ := Own.shape HO2
      rw [hL] at hv
      subst hv
      have HR := Lib.hid (Rw.OwnS.rd encT_len HO2).1
      clear HO HO2
      go_wp2_with fail
      go_ret
      exact ⟨ad', cap', rfl, HR.out, HB.out⟩
end Go.Proofs.YtkcjllkhmncfdaaDoor.Mnd
