/- The contract of package nodes (layer 3) for a set's text: a range over a function whose body collects texts. -/
import Derived.Test.YtljkpcckfammmaaDoorNodesG
namespace Go.Proofs.YtljkpcckfammmaaDoor.Nodes
open Go.RowKit Go.Shelf Go.ChangeShapes Go.WideShapes
set_option linter.unusedVariables false
attribute [local go_sem] Oper.semAt_some
theorem infoStr : (Tryd.prog.info? 9).map (fun i => (i.zero, i.size, i.bytes)) = some (some (.string ⟨#[]⟩), 1, 16) := by kernel_rfl
def decB (x : Nod) : ByteArray := ⟨(Go.Lib.decDigits x.val).toArray⟩
def strs (pre : List Nod) : List Value := pre.map fun x => .string (decB x)
theorem strs_len (pre : List Nod) : (strs pre).length = pre.length := by simp [strs]
theorem strs_snoc (pre : List Nod) (x : Nod) : strs (pre ++ [x]) = strs pre ++ [.string (decB x)] := by simp [strs]
theorem itoa_any (x : Nod) (w : World) : Calls Tryd.prog 38 #[.int .i64 ((x.val : Nat) : Int)] w fun e w' => e = .returned (.string (decB x)) ∧ w = w' :=
  (Tryd.strconv_Itoa_small x.val (by omega) w).mono fun e w' ⟨he, hw⟩ => ⟨he, hw.symm⟩
theorem row_at {W : World} {base e n : Nat} {v : Value} {xs : List Value} (h : W.ownsRow base e 1 v n xs) (h0 : 0 < n) :
    ∃ ad cap, v = .slice ad n cap ∧ ∃ g, ad = some ⟨g, 0, none⟩ ∧ base ≤ g ∧ g < W.heap.size ∧ n ≤ cap ∧ ∀ j u, xs[j]? = some u → W.cell? ⟨g, j, none⟩ = some u := by
  have h' := h
  rcases h'.2 with ⟨_, hz⟩ | ⟨g, cap, cur, rfl, hb, hg, hn, _⟩
  · omega
  · refine ⟨_, cap, rfl, g, rfl, hb, (Array.getElem?_eq_some_iff.1 hg).1, hn, fun j u hj => ?_⟩
    have hl := h.1
    have := World.ownsRow.cellAt h j (by have := (List.getElem?_eq_some_iff.1 hj).1; omega)
    rw [this, hj]
theorem join_at {S : Nat} {ys : List Nod} (h : ys.map Fin.val = mem S) : Go.Lib.join ((ys.map decB).map (·.data.toList)) (⟨#[44]⟩ : ByteArray).data.toList = txt (mem S) := by
  unfold txt
  rw [← h, List.map_map, List.map_map]
  rfl
set_option maxRecDepth 100000 in
set_option maxHeartbeats 2000000 in
theorem text_in (n : Nat) (hn : 3 ≤ n) (S : Nat) (hS : S < 18446744073709551616) (h0 : S ≠ 0) (w : World) (hT : Tabs w) :
    CallsIn Fence.wide n Tryd.prog 26 #[.int .u64 S] w fun e w' => e = .returned (.string ⟨(txt (mem S)).toArray⟩) ∧ Below w.heap.size w w' := by
  have h1 : 1 ≤ n := by omega
  obtain ⟨i0, hi, hz0, hz1, hz2⟩ := info_parts infoStr
  have CE := Lib.hid (fun W => each_any S W)
  have HN := mem_le S
  obtain ⟨N, hN⟩ : ∃ N, Hid ((mem S).length = N) := ⟨_, Lib.hid rfl⟩
  rw [hN.out] at HN
  have hne : ((S : Int) == 0) = false := beq_eq_false_iff_ne.2 (by omega)
  have HPOS := Lib.hid (show 0 < (mem S).length by
    exact List.length_pos_iff.2 (fun e => h0 ((mem_eq_nil hS).1 e)))
  clear h0
  refine callsIn_of_wp_marks Tryd.func26 rfl trivial ?_ rfl
  simp only [Tryd.ntmps26, List.size_toArray, List.length_cons, List.length_nil, Nat.reduceAdd, Nat.reduceSub, Array.replicate_succ, Array.replicate_zero, List.push_toArray, List.append_toArray, List.nil_append, List.cons_append]
  gi_wp2_with (refine ⟨trivial, ?_⟩; gi_at_call 32; refine (callsIn_wide.2 (CE.out _)).mono ?_; rintro e w' ⟨rfl, rfl⟩)
  have bO := Boxed.new w 53 (.slice none 0 0)
  have bS := Boxed.new (w.alloc (.cells #[.slice none 0 0] 53)) 24 (.int .u64 S)
  rw [World.size_alloc] at bS
  have hB0 : Below w.heap.size w ((w.alloc (.cells #[.slice none 0 0] 53)).alloc (.cells #[.int .u64 S] 24)) := ((Below.refl _ _).alloc (by omega) _).alloc (by simp) _
  have hTL := hT.below hB0
  have hmx : Tryd.prog.follows .mixedOrders = true := by kernel_rfl
  refine wpIn_rangeFunc_ownG rfl h1 (gf := 42) (lb := #[.pointer (some ⟨w.heap.size + 1, 0, none⟩)]) rfl trivial (enters_of Tryd.func42 (by kernel_rfl) rfl)
    (each_stops (n - 1) (by omega) (w.heap.size + 1) w.heap.size S hS _ (by simp) (by simp; omega) bS.cell hTL hT.2) belowK_t (belowK_b (by simp; omega)) (Below.refl _ _) (fun _ => rfl)
    (fun pre W => (∃ v, Boxed W w.heap.size 53 v ∧ W.ownsRow w.heap.size 9 1 v (strs pre).length (strs pre) ∧ True) ∧ Below w.heap.size w W)
    (fun _ _ _ => False)
    (OwnFrom.and (Own.from (holdsRow_own w.heap.size w.heap.size 53 9 1 (fun pre => (strs pre).length) (fun pre => strs pre) (fun _ _ => True)) _) (ownFrom_below (Nat.le_refl _) (by simp; omega)))
    (fun _ _ _ _ _ hs _ _ => hs)
    ⟨⟨_, bO.alloc _, World.ownsRow_nil _ _ _ _, trivial⟩, hB0⟩
    (fun x => { tmps := #[.int .u64 S, undef, .string ⟨#[]⟩, .pointer (some ⟨w.heap.size, 0, none⟩), .int .i64 ((x.val : Nat) : Int), .int .u64 S, .bool false, .int .u64 S, .func (.func 42) #[] #[.pointer (some ⟨w.heap.size + 1, 0, none⟩)], .int .i64 ((x.val : Nat) : Int), undef, undef, undef, undef, undef, undef, undef], defers := [] }) ?assign ?body ?done ?stop
  case assign =>
    intro l x W K hK
    unfold encN
    gi_wp2
    exact hK
  case body =>
    rintro l pre x W ⟨⟨v, hv, hrow, _⟩, hB⟩ hlt
    rw [hN.out] at hlt
    have hd : 1 ≤ n - 1 - 1 := by omega
    have hc := hv.cell
    have hpl := strs_len pre
    have HP := Lib.hid hpl
    have hsz := hB.size
    have CI := Lib.hid (fun W => itoa_any x W)
    rw [hpl] at hrow
    clear hpl
    gi_wp2
    refine wpIn_region_any hmx ?_
    change wpAnyIn _ _ _ _ _ _ _ _ _ (World.drew _)
    have hcD : W.drew.cell? ⟨w.heap.size, 0, none⟩ = some v := hc
    have hvD : Boxed W.drew w.heap.size 53 v := hv
    have hcA : ((W.alloc (.cells #[.string (decB x)] 9)).drew).cell? ⟨w.heap.size, 0, none⟩ = some v := (hvD.alloc (.cells #[.string (decB x)] 9)).cell
    repeat' (first
      | exact AllReadyIn.nil
      | (refine wpAnyIn_done (by decide +kernel) ?_ _)
      | (refine wpAnyIn_ready (rs := [0, 1]) (by decide +kernel) (by simp) ?_)
      | (refine wpAnyIn_ready (rs := [0, 2]) (by decide +kernel) (by simp) ?_)
      | (refine wpAnyIn_ready (rs := [0, 3]) (by decide +kernel) (by simp) ?_)
      | (refine wpAnyIn_ready (rs := [0]) (by decide +kernel) (by simp) ?_)
      | (refine wpAnyIn_ready (rs := [1]) (by decide +kernel) (by simp) ?_)
      | (refine wpAnyIn_ready (rs := [2]) (by decide +kernel) (by simp) ?_)
      | (refine wpAnyIn_ready (rs := [3]) (by decide +kernel) (by simp) ?_)
      | (refine wpAnyIn_ready (rs := [4]) (by decide +kernel) (by simp) ?_)
      | (refine wpAnyIn_ready (rs := [5]) (by decide +kernel) (by simp) ?_)
      | (refine AllReadyIn.cons rfl (fun K hK => ?_) ?_)
      | (refine Own.stepIn_append2 _ rfl _ _ 53 rfl w.heap.size 9 i0 (.string ⟨#[]⟩) 1 16 Tryd.underlying53 hi hz0 hz1 hz2 rfl (by decide) v pre.length (strs pre) rfl (World.ownsRow.alloc (World.ownsRow.drew hrow) _) ⟨W.heap.size, 0, none⟩ 1 1 [.string (decB x)] rfl rfl (cell_one_new _ _ _) (by simp [Value.oneCell']) (by unfold maxLen; omega) (by omega) (by simp; omega) ?_
         intro v' w2 hown' hgrow _ _
         obtain ⟨g', cap', rfl⟩ := ownsRow_succ hown'
         obtain ⟨hv1, hv2, hr2, hk2, hb2⟩ := hvD.appended (by decide) (World.ownsRow.drew hrow) hsz (Nat.le_refl _) hown' hgrow
         have hc1 := hv1.cell
         have hf1 := hv1.frozen
         refine hK _ _ ?_
         clear hK K)
      | (go_simp; refine hK _ _ ?_; clear hK K)
      | (go_simp; refine ⟨trivial, ?_⟩; refine (CallsIn.inRound l (callsIn_wide.2 (CI.out _))).mono ?_; rintro e w' ⟨rfl, rfl⟩; refine hK _ _ ?_; clear hK K))
    all_goals exact ⟨((KeepsOthers.drew W).trans hk2).from _, (Below.drew (Below.refl _ _)).trans hb2, ⟨_, hv2, by rw [strs_snoc, List.length_append, HP.out]; exact hr2, trivial⟩, hB.trans ((Below.drew (Below.refl _ _)).trans hb2)⟩
  case done =>
    rintro D ys W hD hys ⟨⟨v, hv, hrow, _⟩, hB⟩ hK
    have hc := hv.cell
    have hpos : 0 < (strs ys).length := by
      rw [strs_len]
      have := congrArg List.length hys
      rw [List.length_map] at this
      rw [this]
      exact HPOS.out
    have hle : (strs ys).length ≤ 64 := by
      rw [strs_len]
      have := congrArg List.length hys
      rw [List.length_map, hN.out] at this
      omega
    have HJ := Lib.hid (join_at hys)
    have hbsz : w.heap.size < W.heap.size := hv.lt
    obtain ⟨ad, cap, rfl, g, rfl, hg1, hg2, hg3, hcl⟩ := row_at hrow hpos
    have CJ := Lib.hid (Tryd.strings_Join g 0 cap (ys.map decB) ⟨#[44]⟩ W (fun j y hj => by rw [Nat.zero_add]; exact hcl j _ (by simp [strs, List.getElem?_map] at hj ⊢; exact hj)) hg2 (by simpa [strs] using (by omega : (strs ys).length ≤ 140737488355328)) (by simpa [strs] using hg3) (by rw [HJ.out]; exact Nat.le_trans (txt_len _ (fun x hx => by have := mem_lt x hx; omega)).1 (by rw [hN.out]; omega)))
    rw [HJ.out, List.length_map] at CJ
    rw [strs_len] at *
    gi_wp2_with (refine ⟨trivial, ?_⟩; gi_at_call 39; refine (callsIn_wide.2 CJ.out).mono ?_; rintro e w3 ⟨rfl, hB3⟩)
    have hK3 : w3.heap[D]? = some (.deferred (some [])) := (hB3.block D (Array.getElem?_eq_some_iff.1 hK).1).trans hK
    refine ⟨by simp, .inl ⟨_, _, rfl, run_takeDeferred hK3, ?_⟩⟩
    exact ⟨_, results_tmp rfl _ _ _, rfl, (hB.trans (hB3.mono hB.size)).trans (belowK_b (w := w) (Nat.le_refl _) w3 D _ _ (by simp at hD; omega) hK3 rfl rfl)⟩
  case stop =>
    rintro D c pre W _ _ h _
    exact h.elim
theorem text_any (S : Nat) (hS : S < 18446744073709551616) (w : World) (hT : Tabs w) :
    Calls Tryd.prog 26 #[.int .u64 S] w fun e w' => e = .returned (.string ⟨(textN S).toArray⟩) ∧ Below w.heap.size w w' := by
  by_cases h0 : S = 0
  · subst h0
    have HF := Lib.hid (show textN 0 = [45] from rfl)
    clear hT
    go_enter Tryd.func26, Tryd.ntmps26
    go_wp2
    go_ret
    exact ⟨ret_str (by rw [HF.out]), Below.refl _ _⟩
  · have h := callsIn_wide.1 (text_in 3 (Nat.le_refl _) S hS h0 w hT)
    rw [show textN S = txt (mem S) from if_neg h0]
    exact h
end Go.Proofs.YtljkpcckfammmaaDoor.Nodes
