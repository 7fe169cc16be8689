/- Contracts of package agenda (layer 8) at int64: Add. -/
import Derived.Test.YtliblcjfccijjaaAgdF
namespace Go.Proofs.Ytliblcjfccijjaa.AgdL
open Go.ChangeShapes Go.WideShapes Go.ChangeAt Go.RowKit
open Go.Proofs.Ytliblcjfccijjaa.Rw Go.Proofs.Ytliblcjfccijjaa.Agd
set_option linter.unusedVariables false
set_option linter.unusedSimpArgs false
theorem infoThing : (Try.prog.info? 102).map (fun i => (i.zero, i.size, i.bytes)) = some (some (.agg #[.int .i64 0, .int .u64 0, .int .i64 0]), 3, 24) := by kernel_rfl
/-- What a step leaves that may add. -/
def AgPost (g : Nat) (most : Int) (add : Nat) (l : List Th) (F : Nat → Prop) (w w' : World) : Prop := AgL w' g most add l (Ext F w w') ∧ Stay F w w'
theorem AgStay.post {g : Nat} {most : Int} {add : Nat} {l : List Th} {F : Nat → Prop} {w w' : World} (h : AgStay g most add l F w w') : AgPost g most add l F w w' := ⟨h.1.mono (fun k hk => .inl hk), h.2⟩
theorem nos_snoc {l : List Th} {add : Nat} {d x : Int} (hs : Nos l) (hno : ∀ t ∈ l, t.no < add) : Nos (l ++ [⟨d, add, x⟩]) ∧ ∀ t ∈ l ++ [⟨d, add, x⟩], t.no < add + 1 := by
  refine ⟨List.pairwise_append.2 ⟨hs, List.pairwise_singleton _ _, fun a ha b hb => ?_⟩, fun t ht => ?_⟩
  · obtain rfl := List.mem_singleton.1 hb
    exact hno a ha
  · rcases List.mem_append.1 ht with h | h
    · exact Nat.lt_succ_of_lt (hno t h)
    · obtain rfl := List.mem_singleton.1 h
      exact Nat.lt_succ_self _
/-- The row has grown, the box is written. -/
theorem add_step {g n : Nat} {most : Int} {add : Nat} {F : Nat → Prop} {w wa w3 : World} {ov v3 : Value} {H : List Th} {t : Th} (hF : F g) (hb : Blk w g 100 #[.int .i64 most, .int .u64 add, ov]) (hov : ∀ k, ov.ownBlock = some k → F k ∧ k ≠ g)
    (hB : Below w.heap.size w wa) (hn : H.length = n) (h3 : w3.ownsRow 0 102 3 v3 (n + 1) (H.flatMap encT ++ encT t)) (hg : wa.grownBy w3 ov.ownBlock) (hs : v3.ownBlock = ov.ownBlock ∨ ∀ k, v3.ownBlock = some k → wa.heap.size ≤ k) :
    Blk w3 g 100 #[.int .i64 most, .int .u64 add, ov] ∧ ∀ W, (W = (w3.setCell ⟨g, 2, none⟩ v3).setCell ⟨g, 1, none⟩ (.int .u64 (add + 1 : Nat)) ∨ W = (w3.setCell ⟨g, 2, none⟩ v3).drew.setCell ⟨g, 1, none⟩ (.int .u64 (add + 1 : Nat))) →
      ∃ b cap', v3 = .slice (some ⟨b, 0, none⟩) (n + 1) cap' ∧ Ext F w W b ∧ RowL W g b most (add + 1) cap' (H ++ [t]) ∧ Stay F w W := by
  have hba : Blk wa g 100 #[.int .i64 most, .int .u64 add, ov] := hb.below hB
  have hgw := hb.lt
  have hsz := hB.size
  have hb3 : Blk w3 g 100 #[.int .i64 most, .int .u64 add, ov] := hba.grown hg (fun e => (hov g e.symm).2 rfl)
  have hvg : v3.ownBlock ≠ some g := fun e => by
    rcases hs with h | h
    · rw [h] at e; exact (hov g e).2 rfl
    · have := h g e; omega
  have hst : Stay F w w3 := (Stay.of_below (F := F) hB).snoc (Stay.of_grown (F := F) hg (fun k e => (hov k e).1)) (fun k _ e => e)
  have hset : ∀ (V : World) (i : Nat) (u : Value), Stay F V (V.setCell ⟨g, i, none⟩ u) := fun V i u => Stay.of_grown (setCell_grown V g i u) (fun k e => by
    have : g = k := by simpa using e
    exact this ▸ hF)
  have key : ∀ W, (∃ V, (V = w3.setCell ⟨g, 2, none⟩ v3 ∨ V = (w3.setCell ⟨g, 2, none⟩ v3).drew) ∧ W = V.setCell ⟨g, 1, none⟩ (.int .u64 (add + 1 : Nat))) → ∃ b cap', v3 = .slice (some ⟨b, 0, none⟩) (n + 1) cap' ∧ Ext F w W b ∧ RowL W g b most (add + 1) cap' (H ++ [t]) ∧ Stay F w W := by
    rintro W ⟨V, hV, rfl⟩
    have hbV : Blk V g 100 #[.int .i64 most, .int .u64 add, v3] := by
      have h1 := hb3.put 2 v3
      rcases hV with rfl | rfl
      · exact h1
      · exact h1
    have hoV : V.ownsRow 0 102 3 v3 (n + 1) (H.flatMap encT ++ encT t) := by
      have h1 := World.ownsRow.kept h3 (setCell_grown w3 g 2 v3) (.inr hvg)
      rcases hV with rfl | rfl
      · exact h1
      · exact World.ownsRow.kept h1 (row := Option.none) ⟨rfl, rfl, rfl, Nat.le_refl _, fun k _ _ => rfl⟩ (by cases hv : v3.ownBlock <;> simp)
    have hsV : Stay F w V := by
      have h1 := hst.snoc (hset w3 2 v3) (fun k _ e => e)
      rcases hV with rfl | rfl
      · exact h1
      · exact h1.snoc (Stay.of_below (F := F) (Below.refl _ _).drew) (fun k _ e => e)
    have hoW := World.ownsRow.kept hoV (setCell_grown V g 1 (.int .u64 (add + 1 : Nat))) (.inr hvg)
    have hbW : Blk (V.setCell ⟨g, 1, none⟩ (.int .u64 (add + 1 : Nat))) g 100 #[.int .i64 most, .int .u64 (add + 1 : Nat), v3] := hbV.put 1 _
    have hl : (H ++ [t]).length = n + 1 := by rw [List.length_append, hn]; rfl
    have hoW' : (V.setCell ⟨g, 1, none⟩ (.int .u64 (add + 1 : Nat))).ownsRow 0 102 3 v3 (H ++ [t]).length ((H ++ [t]).flatMap encT) := by
      rw [hl, List.flatMap_append, List.flatMap_singleton]; exact hoW
    obtain ⟨b, cap', e1, hr⟩ := Row.of hoW' hbW (by rw [hl]; omega) hvg
    have hstW := hsV.snoc (hset V 1 (.int .u64 (add + 1 : Nat))) (fun k _ e => e)
    refine ⟨b, cap', ?_, ?_, hr, hstW⟩
    · have h1 := hr.box.cell 2
      have h2 := hbW.cell 2
      rw [h1] at h2
      simp only [List.getElem?_toArray, List.getElem?_cons_succ, List.getElem?_cons_zero, Option.some.injEq] at h2
      rw [← h2, hl]
    · rcases hs with h | h
      · rw [h] at e1; exact .inl (hov b e1).1
      · exact .inr ⟨by have := h b e1; omega, hr.ltb⟩
  exact ⟨hb3, fun W hW => key W (hW.elim (fun e => ⟨_, .inl rfl, e⟩) (fun e => ⟨_, .inr rfl, e⟩))⟩
theorem add_end {g b : Nat} {most : Int} {add cap : Nat} {F : Nat → Prop} {w W w' : World} {H l : List Th} {d x : Int} (hF : F g) (hp : H.Perm l) (hs : Nos l) (hno : ∀ t ∈ l, t.no < add) (hE : Ext F w W b) (hst : Stay F w W) (h : HeapPost g b most (add + 1) cap (H ++ [⟨d, add, x⟩]) W w') : AgPost g most (add + 1) (l ++ [⟨d, add, x⟩]) F w w' := by
  obtain ⟨l', hr, hh, hp', hs'⟩ := h
  have h1 := hst.size
  have h2 := hs'.size
  obtain ⟨n1, n2⟩ := nos_snoc (d := d) (x := x) hs hno
  refine ⟨⟨l', ⟨.inl hF, .inr ⟨b, cap, ?_, hr⟩⟩, hh, hp'.trans (hp.append_right _), n1, n2⟩, ⟨hs'.os.trans hst.os, hs'.tape.trans hst.tape, hs'.output.trans hst.output, by omega, fun k hk hn => ?_⟩⟩
  · rcases hE with h | h
    · exact .inl h
    · exact .inr ⟨h.1, by omega⟩
  · refine (hs'.block k (by omega) (fun e => ?_)).trans (hst.block k hk hn)
    subst e
    rcases hE with h | h
    · exact hn h
    · omega
set_option maxRecDepth 100000 in
set_option maxHeartbeats 4000000 in
theorem add_any (due x : Int) (g : Nat) (most : Int) (add : Nat) (l : List Th) (F : Nat → Prop) (w : World) (h : AgL w g most add l F) (hm : 0 ≤ most ∧ most ≤ 65536) (hN : l.length ≤ 100000) (hA : add ≤ 100000) (hfull : ¬ (most - (l.length : Int) = 0)) :
    Calls Try.prog 31 #[.pointer (some ⟨g, 0, none⟩), .int .i64 due, .int .i64 x] w fun e w' => e = .returned (.int .i64 0) ∧ AgPost g most (add + 1) (l ++ [⟨due, add, x⟩]) F w w' := by
  obtain ⟨i0, hi0, hz0, hz1, hz2⟩ := info_parts infoThing
  have CR := Lib.hid (room_any g most add l F w h hm (by omega))
  obtain ⟨H, ⟨hF, hcase⟩, hh, hp, hs, hno⟩ := h
  have hlen : H.length = l.length := hp.length_eq
  obtain ⟨ad, cap, hbox, hown, hob⟩ : ∃ ad cap, Blk w g 100 #[.int .i64 most, .int .u64 add, .slice ad H.length cap] ∧ OwnS encT 3 102 w 0 (.slice ad H.length cap) H ∧ ∀ k, (Value.slice ad H.length cap).ownBlock = some k → F k ∧ k ≠ g := by
    rcases hcase with ⟨rfl, hb⟩ | ⟨b, cap, hb, hr⟩
    · exact ⟨none, 0, hb, OwnS.nil _ _, fun k hk => by simp [Value.ownBlock] at hk⟩
    · exact ⟨_, _, hr.box, hr.own, fun k hk => by
        have : b = k := by simpa [Value.ownBlock] using hk
        subst this
        exact ⟨hb, fun e => hr.ne e.symm⟩⟩
  rw [hlen] at hbox hown hob
  have c1 := hbox.cell 1
  have c2 := hbox.cell 2
  have hgb := hbox.lt
  simp only [List.getElem?_toArray] at c1 c2
  generalize hn : l.length = n at *
  have HX : Hid (∀ wa v3 w3, Below w.heap.size w wa → w3.ownsRow 0 102 3 v3 (n + 1) (H.flatMap encT ++ encT ⟨due, add, x⟩) → wa.grownBy w3 (Value.slice ad n cap).ownBlock → (v3.ownBlock = (Value.slice ad n cap).ownBlock ∨ ∀ k, v3.ownBlock = some k → wa.heap.size ≤ k) → _) := Lib.hid (fun wa v3 w3 a1 a2 a3 a4 => add_step hF hbox hob a1 hlen a2 a3 a4)
  have HO : Hid (∀ W, Below w.heap.size w W → W.ownsRow 0 102 3 (Value.slice ad n cap) n (H.flatMap encT)) := Lib.hid (fun W hW => by
    have h1 : OwnS encT 3 102 W 0 (.slice ad n cap) H := hown.below hW
    unfold OwnS at h1
    rw [hlen] at h1
    exact h1)
  have HB1 : Hid (∀ (W : World) o, Below w.heap.size w W → Below w.heap.size w (W.alloc o).drew) := Lib.hid (fun W o hW => (hW.alloc hW.size o).drew)
  have HA : Hid (∀ (W : World), ∀ j u, (encT ⟨due, add, x⟩)[j]? = some u → (W.alloc (.cells #[.int .i64 due, .int .u64 add, .int .i64 x] 102)).drew.cell? ((⟨W.heap.size, 0, none⟩ : Addr).add j) = some u) := Lib.hid (fun W j u hu => by
    rw [Addr.add_lit]
    exact Rw.At.box (enc := encT) W ⟨due, add, x⟩ _ rfl j u hu)
  have CK : Hid (∀ W b cap', RowL W g b most (add + 1) cap' (H ++ [⟨due, add, x⟩]) → Calls Try.prog 58 #[.pointer (some ⟨g, 0, none⟩), .int .i64 n] W fun e w' => e = .returned (.tuple #[]) ∧ HeapPost g b most (add + 1) cap' (H ++ [⟨due, add, x⟩]) W w') := Lib.hid (fun W b cap' hr => by
    have h1 := hh.snoc ⟨due, add, x⟩
    rw [hlen] at h1
    exact rise_any g b most (add + 1) cap' _ W hr (by rw [List.length_append, hlen]; simp only [List.length_singleton]; omega) n (by rw [List.length_append, hlen]; simp) h1)
  have HZ : Hid (∀ W w' b cap', Ext F w W b → Stay F w W → HeapPost g b most (add + 1) cap' (H ++ [⟨due, add, x⟩]) W w' → AgPost g most (add + 1) (l ++ [⟨due, add, x⟩]) F w w') := Lib.hid (fun W w' b cap' h1 h2 h3 => add_end hF hp hs hno h1 h2 h3)
  have hpos := hown.pos
  clear hown hcase
  generalize hov : Value.slice ad n cap = ov at *
  go_enter Try.func31, Try.ntmps31
  go_wp2_with fail
  refine (CR.out).mono ?_; rintro e w1 ⟨rfl, hB1⟩
  have c11 : w1.cell? ⟨g, 1, none⟩ = some (.int .u64 add) := (hbox.below hB1).cell 1
  have c12 : w1.cell? ⟨g, 2, none⟩ = some ov := (hbox.below hB1).cell 2
  go_wp2_with fail
  have c22 : (w1.alloc (.cells #[.int .i64 due, .int .u64 add, .int .i64 x] 102)).cell? ⟨g, 2, none⟩ = some ov := ((hbox.below hB1).alloc _).cell 2
  go_region_law (refine step_append2 _ rfl _ _ 98 rfl 0 102 i0 (.agg #[.int .i64 0, .int .u64 0, .int .i64 0]) 3 24 Try.underlying98 hi0 hz0 hz1 hz2 rfl (by decide) ov n (H.flatMap encT) ?_ (HO.out _ (HB1.out _ _ hB1)) (some ⟨w1.heap.size, 0, none⟩) 1 1 (encT ⟨due, add, x⟩) ?_ rfl (fun e => by cases e) (fun ad e => by cases e; exact HA.out _) (by simp [encT, Value.oneCell']) (by unfold maxLen; omega) (by omega) (Nat.zero_le _) ?_; (focus (simp [Act.eval, Act.put])); (focus (simp [Act.eval, Act.put])); intro v3 w3 hown3 hgrow3 hsame3; obtain ⟨ad3, cap3, rfl, -⟩ := Own.shape hown3; obtain ⟨hb3, hk3⟩ := HX.out _ _ w3 (HB1.out _ _ hB1) hown3 hgrow3 hsame3; have y1 : w3.cell? ⟨g, 1, none⟩ = some (.int .u64 add) := hb3.cell 1; have y2 : w3.cell? ⟨g, 2, none⟩ = some ov := hb3.cell 2; have z1 := hb3.free 1; have z2 := hb3.free 2; have H3 := Lib.hid hk3; clear hb3 hk3 hown3 hgrow3 hsame3)
  all_goals
    go_wp2_with fail
    obtain ⟨b, cap4, e4, hE4, hr4, hs4⟩ := H3.out _ (.inl rfl)
    refine (CK.out _ b cap4 hr4).mono ?_; rintro e w5 ⟨rfl, hq⟩
    have HQ := Lib.hid (HZ.out _ w5 b cap4 hE4 hs4 hq)
    clear hq hE4 hr4 hs4 e4
    go_wp2_with fail
    go_ret
    exact ⟨rfl, HQ.out⟩
theorem add_full (due x : Int) (g : Nat) (most : Int) (add : Nat) (l : List Th) (F : Nat → Prop) (w : World) (h : AgL w g most add l F) (hm : 0 ≤ most ∧ most ≤ 65536) (hN : l.length ≤ 100000) (hfull : most - (l.length : Int) = 0) :
    Calls Try.prog 31 #[.pointer (some ⟨g, 0, none⟩), .int .i64 due, .int .i64 x] w fun e w' => e = .returned (.int .i64 13) ∧ AgStay g most add l F w w' := by
  have CR := Lib.hid (room_any g most add l F w h hm (by omega))
  rw [hfull] at CR
  have HS : Hid (∀ W, Below w.heap.size w W → AgStay g most add l F w W) := Lib.hid (fun W hW => AgStay.same h hW)
  clear h hfull
  go_enter Try.func31, Try.ntmps31
  go_wp2_with fail
  refine (CR.out).mono ?_; rintro e w1 ⟨rfl, hB1⟩
  have HE := Lib.hid (HS.out _ hB1)
  clear hB1
  go_wp2_with fail
  go_ret
  exact ⟨rfl, HE.out⟩
end Go.Proofs.Ytliblcjfccijjaa.AgdL
