/- The document's own for layer 25: a list of readings; At, Note, Close. -/
import Derived.Test.YtcadmepfnafpmaaRndA
import Derived.Test.YtcadmepfnafpmaaTrmD
import Derived.Test.YtcadmepfnafpmaaOwnA
namespace Go.Proofs.Ytcadmepfnafpmaa.Rnd
open Go.ChangeShapes Go.WideShapes Go.ChangeAt Go.RowKit
open I64s (In64 Sl OwnL ListPost app_one)
set_option linter.unusedVariables false
set_option linter.unusedSimpArgs false
def encR (p : Rg) : List Value := [.int .i64 p.1, .int .i64 p.2]
theorem encR_len (p : Rg) : (encR p).length = 2 := rfl
theorem encR_one (p : Rg) : ∀ u ∈ encR p, u.oneCell' = true := by simp [encR, Value.oneCell']
theorem flatR_one (L : List Rg) : ∀ u ∈ L.flatMap encR, u.oneCell' = true := fun v hv => by
  obtain ⟨y, _, hy⟩ := List.mem_flatMap.1 hv
  exact encR_one y v hy
theorem infoR : (Try.prog.info? 28).map (fun i => (i.zero, i.size, i.bytes)) = some (some (.agg #[.int .i64 0, .int .i64 0]), 2, 16) := by kernel_rfl
/-- A slice of readings that reads as a list. -/
structure RS (w : World) (ad : Option Addr) (cap : Nat) (L : List Rg) : Prop where
  rd : Rw.Rd encR 2 w ad L
  le : L.length ≤ cap
  mx : cap ≤ 9223372036854775807
  nil : ad = none → cap = 0
theorem RS.below {w w' : World} {ad : Option Addr} {cap : Nat} {L : List Rg} (h : RS w ad cap L) (hb : Below w.heap.size w w') : RS w' ad cap L := ⟨h.rd.below hb, h.le, h.mx, h.nil⟩
theorem RS.start (w : World) : RS w none 0 [] := ⟨.inl rfl, Nat.le_refl _, by omega, fun _ => rfl⟩
theorem RS.at {w : World} {ad : Option Addr} {cap : Nat} {L : List Rg} (h : RS w ad cap L) {k : Nat} (hk : k < L.length) : ∃ b off, ad = some ⟨b, off, none⟩ ∧ ∀ W, Below w.heap.size w W → W.cell? ⟨b, off + k * 2, none⟩ = some (.int .i64 (L.getD k default).1) ∧ W.cell? ⟨b, off + k * 2 + 1, none⟩ = some (.int .i64 (L.getD k default).2) := by
  obtain ⟨b, off, e, hb, hc⟩ := h.rd.at_ hk
  exact ⟨b, off, e, fun W hW => ⟨hc.below hW hb 0 _ rfl, hc.below hW hb 1 _ rfl⟩⟩
theorem takeR_succ {L : List Rg} {k : Nat} (hk : k < L.length) : L.take (k + 1) = L.take k ++ [L.getD k default] := by
  rw [List.take_succ_eq_append_getElem hk]; simp [hk]
theorem getD_memR {L : List Rg} {k : Nat} (hk : k < L.length) : L.getD k default ∈ L := by
  have : L.getD k default = L[k] := by simp [hk]
  rw [this]; exact List.getElem_mem hk
/-- The cells of a list that reads, from wherever it lies. -/
theorem flatR_len (d : List Rg) : (d.flatMap encR).length = d.length * 2 := Rw.flat_len encR_len d
theorem rd_newsR {w : World} {ad : Option Addr} {d : List Rg} (h : Rw.Rd encR 2 w ad d) : ∀ x, ad = some x → ∀ j u, (d.flatMap encR)[j]? = some u → w.cell? (x.add j) = some u := fun x e j u hu => by
  rcases h with rfl | ⟨b, off, rfl, -, hc⟩
  · simp at hu
  · cases e
    rw [Addr.add_lit]
    have hj := (List.getElem?_eq_some_iff.1 hu).1
    rw [flatR_len] at hj
    have e := Rw.flat_at encR_len d (j / 2) (j % 2) (by omega) (Nat.mod_lt _ (by decide))
    rw [show j / 2 * 2 + j % 2 = j by omega] at e
    have h2 := hc (j / 2) (by omega) (j % 2) u (by rw [← e]; exact hu)
    rw [show off + j / 2 * 2 + j % 2 = off + j by omega] at h2
    exact h2
/-- A list of the call's own reads. -/
theorem rs_own {w : World} {base cap : Nat} {ad : Option Addr} {L : List Rg} (h : Rw.OwnS encR 2 28 w base (.slice ad L.length cap) L) : RS w ad cap L := by
  obtain ⟨h1, h2, h3, h4⟩ := h.pos
  exact ⟨(h.rd encR_len).1, h1, by unfold maxLen at h2; omega, h4⟩
/-- Where a node's reading stands. -/
def AtPost (L : List Rg) (x : Int) (w : World) (e : Ending) (w' : World) : Prop := ∃ z : Int, e = .returned (.int .i64 z) ∧ decide (0 ≤ z) = hasR L x ∧ w = w'
theorem rrat_any (ad : Option Addr) (cap : Nat) (L : List Rg) (x : Int) (w : World) (h : RS w ad cap L) (hm : L.length ≤ 1000) :
    Calls Try.prog 24 #[.slice ad L.length cap, .int .i64 x] w (AtPost L x w) := by
  obtain ⟨n, hn⟩ : ∃ n, L.length = n := ⟨_, rfl⟩
  have HA := Lib.hid (fun k (hk : k < n) => h.at (k := k) (by omega))
  have HT := Lib.hid (fun k (hk : k < n) => takeR_succ (L := L) (k := k) (by omega))
  have HG := Lib.hid (fun k (hk : k < n) => getD_memR (L := L) (k := k) (by omega))
  have HF : Hid (L.take n = L) := Lib.hid (by rw [← hn]; exact List.take_length)
  have HP : Hid (∀ z W, decide (0 ≤ z) = hasR L x → w = W → AtPost L x w (.returned (.int .i64 z)) W) := Lib.hid (fun z W h1 h2 => ⟨z, rfl, h1, h2⟩)
  rw [hn] at hm ⊢
  generalize AtPost L x w = Q at *
  clear h hn
  go_enter Try.func24, Try.ntmps24
  go_wp2_with fail
  go_loopw [5] (fun i wr => ∃ k : Nat, k ≤ n ∧ i = .int .i64 k ∧ Hid (hasR (L.take k) x = false) ∧ Hid (w = wr)) (fun i _ => n - (intOf i).toNat)
  case atStart => exact ⟨0, Nat.zero_le _, rfl, Lib.hid rfl, Lib.hid rfl⟩
  case round =>
    obtain ⟨k, hk, rfl, hq, hw⟩ := hrel
    obtain rfl := hw.out
    by_cases hlt : k < n
    · obtain ⟨b, off, rfl, hcW⟩ := HA.out k hlt
      obtain ⟨c1, c2⟩ := hcW w (Below.refl _ _)
      have HT1 := Lib.hid (HT.out k hlt)
      have HG1 := Lib.hid (HG.out k hlt)
      generalize L.getD k default = p at *
      obtain ⟨y, d⟩ := p
      simp only at c1 c2
      by_cases hyx : y = x
      · subst hyx
        have HQ := Lib.hid (HP.out (k : Int) w (by rw [hasR_iff.2 (List.mem_map.2 ⟨_, HG1.out, rfl⟩)]; exact decide_eq_true (by omega)) rfl)
        clear hcW HT1 HG1
        go_wp2_with fail
        first | exact HQ.out | (go_ret; exact HQ.out)
      · have hne : (y == x) = false := beq_eq_false_iff_ne.2 hyx
        have HX := Lib.hid (show hasR (L.take (k + 1)) x = false by rw [HT1.out, hasR_snoc, hq.out]; simp [hyx])
        clear hcW HT1 HG1 hyx
        go_wp2_with fail
        go_roundw
        case rel => exact ⟨k + 1, by omega, by go_num, HX, Lib.hid trivial⟩
        case measure => simp [intOf]; omega
    · obtain rfl : k = n := by omega
      have HQ := Lib.hid (HP.out (-1) w (by have := hq.out; rw [HF.out] at this; rw [this]; rfl) rfl)
      go_wp2_with fail
      first | exact HQ.out | (go_ret; exact HQ.out)
/-- What the document's Note leaves. -/
def RNotePost (L' : List Rg) (er : Int) (w : World) (e : Ending) (w' : World) : Prop :=
  ∃ ad' cap', e = .returned (.tuple #[.slice ad' L'.length cap', .int .i64 er]) ∧ RS w' ad' cap' L' ∧ Below w.heap.size w w'
theorem rrnote_any (ad : Option Addr) (cap : Nat) (L : List Rg) (x d : Int) (w : World) (h : RS w ad cap L) (hm : L.length ≤ 1000) :
    Calls Try.prog 10 #[.slice ad L.length cap, .int .i64 x, .int .i64 d] w (RNotePost (noteL L x d) (noteE L x) w) := by
  have C := Lib.hid (fun W (h : RS W ad cap L) => rrat_any ad cap L x W h hm)
  by_cases h0 : x < 0 ∨ 63 < x
  · rw [show noteL L x d = L by unfold noteL; rw [if_pos h0], show noteE L x = 8 by unfold noteE; rw [if_pos h0]]
    have HP : Hid (RNotePost L 8 w (.returned (.tuple #[.slice ad L.length cap, .int .i64 8])) w) := Lib.hid ⟨ad, cap, rfl, h, Below.refl _ _⟩
    generalize RNotePost L 8 w = Q at *
    generalize L.length = n at *
    clear C h
    by_cases h1 : x < 0
    · have d0 : decide (x < 0) = true := decide_eq_true h1
      clear h0 h1
      go_enter Try.func10, Try.ntmps10
      go_wp2_with fail
      first | exact HP.out | (go_ret2; exact HP.out)
    · have d0 : decide (x < 0) = false := decide_eq_false h1
      have d1 : decide (63 < x) = true := decide_eq_true (by omega)
      clear h0 h1
      go_enter Try.func10, Try.ntmps10
      go_wp2_with fail
      first | exact HP.out | (go_ret2; exact HP.out)
  · have d0 : decide (x < 0) = false := decide_eq_false (by omega)
    have d1 : decide (63 < x) = false := decide_eq_false (by omega)
    have C1 := Lib.hid (C.out w h)
    unfold AtPost at C1
    cases hh : hasR L x with
    | true =>
      rw [show noteL L x d = L by unfold noteL; rw [if_neg h0, if_pos hh], show noteE L x = 12 by unfold noteE; rw [if_neg h0, if_pos hh]]
      rw [hh] at C1
      have HP : Hid (RNotePost L 12 w (.returned (.tuple #[.slice ad L.length cap, .int .i64 12])) w) := Lib.hid ⟨ad, cap, rfl, h, Below.refl _ _⟩
      generalize RNotePost L 12 w = Q at *
      generalize L.length = n at *
      clear C h h0 hh
      go_enter Try.func10, Try.ntmps10
      go_wp2_with fail
      refine (C1.out).mono ?_; rintro e w' ⟨z, rfl, hz, rfl⟩
      go_wp2_with fail
      first | exact HP.out | (go_ret2; exact HP.out)
    | false =>
      rw [show noteL L x d = L ++ [(x, d)] by unfold noteL; rw [if_neg h0, hh]; rfl, show noteE L x = 0 by unfold noteE; rw [if_neg h0, hh]; rfl]
      rw [hh] at C1
      obtain ⟨i0, hi, hz0, hz1, hz2⟩ := info_parts infoR
      obtain ⟨n, hn⟩ : ∃ n, L.length = n := ⟨_, rfl⟩
      have hl2 : (L.flatMap encR).length = n * 2 := by rw [flatR_len, hn]
      have hnone : ad = none → n = 0 ∧ cap = 0 := fun e => by have := h.nil e; have := h.le; omega
      have B0 : Below w.heap.size w (w.alloc (.cells #[] 28)) := (Below.refl _ _).alloc (Nat.le_refl _) _
      have HN := Lib.hid (rd_newsR (h.below B0).rd)
      have O0 : (w.alloc (.cells #[] 28)).ownsRow w.heap.size 28 2 (.slice (some ⟨w.heap.size, 0, none⟩) 0 0) 0 [] := Rw.of_row (Rw.Blk.new w _ _) (Nat.le_refl _) (Nat.le_refl _) (by unfold maxLen; omega) (by simp) (by simp)
      have HP : Hid (∀ v w', w'.ownsRow w.heap.size 28 2 v (0 + n + 1) ([] ++ L.flatMap encR ++ encR (x, d)) → Below w.heap.size w w' → RNotePost (L ++ [(x, d)]) 0 w (.returned (.tuple #[v, .int .i64 0])) w') := Lib.hid (fun v w' ho hB => by
        have hl : (L ++ [(x, d)]).length = n + 1 := by rw [List.length_append, hn]; rfl
        have ho' : Rw.OwnS encR 2 28 w' w.heap.size v (L ++ [(x, d)]) := by
          unfold Rw.OwnS
          rw [hl, List.flatMap_append, List.flatMap_singleton]
          rwa [Nat.zero_add, List.nil_append] at ho
        obtain ⟨ad', cap', e, -⟩ := Own.shape ho'
        subst e
        exact ⟨ad', cap', rfl, rs_own ho', hB⟩)
      rw [hn] at C1 hm ⊢
      generalize RNotePost (L ++ [(x, d)]) 0 w = Q at *
      have HB0 := Lib.hid B0
      clear C h h0 hh hn B0
      go_enter Try.func10, Try.ntmps10
      go_wp2_with fail
      refine (C1.out).mono ?_; rintro e w' ⟨z, rfl, hz, rfl⟩
      go_wp2_with (first
        | (at_builtin; refine Own.wpList_append2_any _ rfl _ _ 22 rfl w.heap.size 28 i0 (.agg #[.int .i64 0, .int .i64 0]) 2 16 Try.underlying22 hi hz0 hz1 hz2 rfl (by decide) _ 0 [] rfl O0 ad n cap (L.flatMap encR) rfl hl2 hnone HN.out (flatR_one L) (by unfold maxLen; omega) (by omega) HB0.out.size ?_; intro v1 w1 hown1 hg1 hs1; have HB1 := Lib.hid (HB0.out.grown hg1 HB0.out.size (fun k e => by cases e; exact Nat.le_refl _)); have hsz1 := HB1.out.size; clear O0)
        | (at_builtin; refine Own.wpList_append2_any _ rfl _ _ 22 rfl w.heap.size 28 i0 (.agg #[.int .i64 0, .int .i64 0]) 2 16 Try.underlying22 hi hz0 hz1 hz2 rfl (by decide) _ (0 + n) _ rfl (World.ownsRow.alloc hown1 _) (some ⟨w1.heap.size, 0, none⟩) 1 1 (encR (x, d)) rfl rfl (fun e => by cases e) (fun y e j u hu => by cases e; rw [Addr.add_lit]; exact Rw.At.box w1 (x, d) #[.int .i64 x, .int .i64 d] rfl j u hu) (encR_one _) (by unfold maxLen; omega) (by omega) (by rw [World.size_alloc]; omega) ?_; intro v2 w2 hown2 hg2 hs2; have HB2 := Lib.hid (HB1.out.trans ((Own.below_append hown1 hsz1 hg2).mono (Nat.le_refl _))))
        | fail)
      first | exact HP.out _ _ hown2 HB2.out | (go_ret2; exact HP.out _ _ hown2 HB2.out)
theorem rrclose_any (f : Int) (ad : Option Addr) (cap : Nat) (L : List Rg) (w : World) (h : RS w ad cap L) (hm : L.length ≤ 1000) (h64 : In64 (valsR L)) :
    Calls Try.prog 13 #[.slice ad L.length cap, .int .i64 f] w fun e w' => e = .returned (.tuple #[.int .i64 (closeV f L), .bool (closeB L)]) ∧ Below w.heap.size w w' := by
  obtain ⟨n, hn⟩ : ∃ n, L.length = n := ⟨_, rfl⟩
  have HA := Lib.hid (fun k (hk : k < n) => h.at (k := k) (by omega))
  have HT := Lib.hid (fun k (hk : k < n) => takeR_succ (L := L) (k := k) (by omega))
  have HF : Hid (L.take n = L) := Lib.hid (by rw [← hn]; exact List.take_length)
  have HN := Lib.hid (fun k => show (valsR (L.take k)).length ≤ 1000 by rw [valsR_len, List.length_take]; omega)
  have C : Hid (∀ W ad cap, Sl W ad cap (valsR L) → Calls Try.prog 26 #[.int .i64 f, .slice ad n cap] W fun e w' => e = .returned (.tuple #[.int .i64 (closeV f L), .bool (closeB L)]) ∧ Below W.heap.size W w') := Lib.hid (fun W ad cap hS => by
    have hc := close_is f L (List.Perm.refl (valsR L))
    have := Trm.rtmid_any f ad cap (valsR L) W hS (by rw [valsR_len]; exact hm) h64
    rwa [hc.1, hc.2, valsR_len, hn] at this)
  have hB0 : Below w.heap.size w (w.alloc (.cells #[] 2)) := (Below.refl _ _).alloc (Nat.le_refl _) _
  rw [hn] at hm ⊢
  have HLn := Lib.hid hn
  clear h hn h64
  go_enter Try.func13, Try.ntmps13
  go_wp2_with fail
  go_loopw [6, 7] (fun v i wr => ∃ k : Nat, k ≤ n ∧ i = .int .i64 k ∧ (∃ ad' m' cap', v = .slice ad' m' cap' ∧ Hid (OwnL wr w.heap.size (.slice ad' m' cap') (valsR (L.take k)))) ∧ Hid (Below w.heap.size w wr)) (fun _ i _ => n - (intOf i).toNat)
  case atStart => exact ⟨0, Nat.zero_le _, rfl, ⟨_, _, _, rfl, Lib.hid (Trm.own_lit w)⟩, Lib.hid hB0⟩
  case round =>
    clear hB0
    obtain ⟨k, hk, rfl, ⟨ad0, m0, cap0, rfl, HO⟩, HB⟩ := hrel
    have hown := HO.out
    have hsz := HB.out.size
    have hl := HN.out k
    by_cases hlt : k < n
    · obtain ⟨b, off, rfl, hcW⟩ := HA.out k hlt
      obtain ⟨c1, c2⟩ := hcW wr HB.out
      have HT1 := Lib.hid (HT.out k hlt)
      generalize L.getD k default = p at *
      obtain ⟨y, d⟩ := p
      simp only at c1 c2
      have HV := Lib.hid (show valsR (L.take (k + 1)) = valsR (L.take k) ++ [d] by rw [HT1.out, valsR_snoc])
      clear HT1 hcW HO
      generalize valsR (L.take k) = s at *
      go_wp2_with (at_builtin; refine app_one rfl _ _ rfl w.heap.size _ _ rfl hown d rfl (by omega) hsz ?_; intro v' w1 hown' hB1 _ _)
      go_roundw
      case rel => exact ⟨k + 1, by omega, by go_num, (by obtain ⟨a', c', e, _⟩ := Own.shape hown'; exact ⟨a', _, c', e, Lib.hid (by rw [← e, HV.out]; exact hown')⟩), Lib.hid (HB.out.trans hB1)⟩
      case measure => simp [intOf]; omega
    · obtain rfl : k = n := by omega
      rw [HF.out] at hown
      obtain ⟨-, e⟩ := hown.rd
      rw [valsR_len, HLn.out] at e
      subst e
      have S := Lib.hid (C.out wr ad0 cap0 (by
        have h := hown
        have e : m0 = (valsR L).length := h.rd.2
        subst e
        exact h.sl))
      obtain ⟨v, hv⟩ : ∃ v, Hid (v = closeV f L) := ⟨_, Lib.hid rfl⟩
      obtain ⟨q, hq⟩ : ∃ q, Hid (q = closeB L) := ⟨_, Lib.hid rfl⟩
      rw [← hv.out, ← hq.out] at S
      clear HO hown C
      go_wp2_with fail
      refine (S.out).mono ?_; rintro e w2 ⟨rfl, hB⟩
      have HBB := Lib.hid (HB.out.trans (hB.mono HB.out.size))
      clear hB
      go_wp2_with fail
      go_ret2
      exact ⟨ret_mid hv.out hq.out, HBB.out⟩
end Go.Proofs.Ytcadmepfnafpmaa.Rnd
