/- The packet one hop on (layer 9): Next. -/
import Derived.Test.YtliblcjfccijjaaHedG
import Derived.Laws.CopyOwn
import Derived.Laws.Tables
namespace Go.Proofs.Ytliblcjfccijjaa.Hed
open Go.ChangeShapes Go.WideShapes Go.ChangeAt Go.RowKit Go.Deep
open Go.Proofs.Ytliblcjfccijjaa.Byt Go.Proofs.Ytliblcjfccijjaa.Key Go.Proofs.Ytliblcjfccijjaa.Buf
set_option linter.unusedVariables false
set_option linter.unusedSimpArgs false
/-- No packet. -/
def zero : Pk := ⟨0, (0, 0, 0), 0, 0, 0, 0, 0, 0, 0, none, 0, []⟩
/-- May the packet go on? -/
def nextB (p : Pk) : Bool := flo p.kind && decide (1 ≤ p.hops ∧ p.hops ≤ 62)
set_option maxRecDepth 100000 in
set_option maxHeartbeats 2000000 in
theorem next_no (p : Pk) (w : World) (h : nextB p = false) :
    Calls Try.prog 26 #[pval p] w fun e w' => e = .returned (.tuple #[pval zero, .bool false]) ∧ Below w.heap.size w w' := by
  have CF := Lib.hid (fun W => flood_any p.kind W)
  have HB : Hid (∀ o o', Below w.heap.size w ((w.alloc o).alloc o')) := Lib.hid (fun o o' => ((Below.refl _ _).alloc (Nat.le_refl _) o).alloc (by simp) o')
  unfold nextB at h
  unfold pval Pk.cells zero
  obtain ⟨kind, ⟨t, f, s⟩, hops, no, to, index, total, stamp, value, ad, cap, body⟩ := p
  simp only at CF h ⊢
  cases hf : flo kind with
  | false =>
    rw [hf] at CF
    clear h hf
    go_enter Try.func26, Try.ntmps26
    go_wp2_with fail
    refine (CF.out _).mono ?_; rintro e w' ⟨rfl, rfl⟩
    go_wp2_with fail
    go_returns
    exact ⟨rfl, HB.out _ _⟩
  | true =>
    rw [hf] at CF h
    have h' := of_decide_eq_false (by simpa using h : decide (1 ≤ hops ∧ hops ≤ 62) = false)
    clear h hf
    by_cases h1 : hops < 1
    · go_enter Try.func26, Try.ntmps26
      go_wp2_with fail
      refine (CF.out _).mono ?_; rintro e w' ⟨rfl, rfl⟩
      go_wp2_with fail
      go_returns
      exact ⟨rfl, HB.out _ _⟩
    · have h2 : hops ≥ 63 := by omega
      clear h'
      go_enter Try.func26, Try.ntmps26
      go_wp2_with fail
      refine (CF.out _).mono ?_; rintro e w' ⟨rfl, rfl⟩
      go_wp2_with fail
      go_returns
      exact ⟨rfl, HB.out _ _⟩
theorem infoPk : (Try.prog.info? 27).map (·.size) = some 12 := by kernel_rfl
theorem boxes_two (w w0 : World) (c d : Array Value) (t : TypeId) (h : w0 = (w.alloc (.cells c t)).alloc (.cells d t)) :
    Below w.heap.size w w0 ∧ Blk w0 w.heap.size t c ∧ Blk w0 (w.heap.size + 1) t d := by
  subst h
  refine ⟨((Below.refl _ _).alloc (Nat.le_refl _) _).alloc (by simp) _, (Blk.new w _ _).alloc _, ?_⟩
  have := Blk.new (w.alloc (.cells c t)) t d
  rw [World.size_alloc] at this
  exact this
theorem Blk.row {w : World} {g : Nat} {t : TypeId} {old : Array Value} (h : Blk w g t old) (cs : Array Value) (hs : old.size = cs.size) : Blk (w.setRow g cs) g t cs := setRow_heap _ _ _ _ _ _ h
/-- The result out of a packet's cell, and a second one. -/
theorem results_pk {fn : Func} (h : fn.results = #[.cell 2 27, .tmp 3]) (tmps : Array Value) (w : World) (g : Nat) (cs : Array Value) (v : Value)
    (hp : tmps.getD 2 undef = .pointer (some ⟨g, 0, none⟩)) (h3 : tmps.getD 3 undef = v) (hg : Blk w g 27 cs) (hs : cs.size = 12) :
    (results fn tmps).run Try.prog w = .ok (.tuple #[.agg cs, v]) w := by
  have hp' : tmps[2]?.getD undef = .pointer (some ⟨g, 0, none⟩) := by simpa using hp
  have h3' : tmps[3]?.getD undef = v := by simpa using h3
  simp [results, h, hp', h3', asAddr, run_loadVar_row w g 27 _ cs (0, 0) _ hg Try.underlying27 rfl (by rw [hs]; exact infoPk)]
theorem pk_no8 (p : Pk) (o : Nat) (x : Int) : p.cells[o]? ≠ some (.int .u8 x) := by
  unfold Pk.cells
  intro h
  match o, h with
  | 0, h => simp at h
  | 1, h => simp at h
  | 2, h => simp at h
  | 3, h => simp at h
  | 4, h => simp at h
  | 5, h => simp at h
  | 6, h => simp at h
  | 7, h => simp at h
  | 8, h => simp at h
  | 9, h => simp at h
  | 10, h => simp at h
  | 11, h => simp at h
  | n + 12, h => simp at h
/-- Bytes stay where a packet's block is written. -/
theorem rd_other {w w' : World} {g : Nat} {ad : Option Addr} {l : List UInt8} (p : Pk) (h : RdB w ad l) (hg : Blk w g 27 p.cells) (hk : ∀ b, b ≠ g → w'.heap[b]? = w.heap[b]?) : RdB w' ad l := by
  refine rd_kept h fun hne b o e _ => hk b ?_
  rintro rfl
  rcases h with h0 | ⟨b', off, e', hc⟩
  · exact hne h0
  · have e2 : some (⟨b, o, none⟩ : Addr) = some ⟨b', off, none⟩ := e.symm.trans e'
    cases e2
    have := hc 0 (List.length_pos_iff.2 hne)
    rw [hg.cell] at this
    exact pk_no8 p _ _ this
set_option maxRecDepth 100000 in
set_option maxHeartbeats 2000000 in
theorem next_yes (p : Pk) (w : World) (h : nextB p = true) (hr : RdB w p.ad p.body) (hn : p.ad = none → p.cap = 0) (hle : p.body.length ≤ p.cap) (hm : p.cap ≤ 140737488355328) :
    Calls Try.prog 26 #[pval p] w fun e w' => ∃ ad' cap', e = .returned (.tuple #[pval { p with hops := p.hops + 1, ad := ad', cap := cap' }, .bool true]) ∧ RdB w' ad' p.body ∧ Below w.heap.size w w' := by
  have CF := Lib.hid (fun W => flood_any p.kind W)
  obtain ⟨W1, hW1⟩ : ∃ W1, Hid (W1 = (w.alloc (.cells (Pk.cells { p with hops := p.hops + 1 }) 27)).alloc (.cells (Pk.cells zero) 27)) := ⟨_, Lib.hid rfl⟩
  have HX := Lib.hid (boxes_two w W1 _ _ _ hW1.out)
  have CC : Hid (Calls Try.prog 55 #[.slice p.ad p.body.length p.cap] W1 fun e w' => ∃ ad' cap', e = .returned (.slice ad' p.body.length cap') ∧ RdB w' ad' p.body ∧ Below W1.heap.size W1 w') := Lib.hid (clone_any p.ad _ p.cap p.body W1 rfl hle hm (hr.below HX.out.1) hn)
  unfold nextB at h
  obtain ⟨kind, ⟨t, f, s⟩, hops, no, to, index, total, stamp, value, ad, cap, body⟩ := p
  unfold pval
  unfold Pk.cells zero at HX hW1
  unfold Pk.cells
  simp only [List.length_nil] at CF CC h hr HX hW1 ⊢
  obtain ⟨hf, hh⟩ : flo kind = true ∧ (1 ≤ hops ∧ hops ≤ 62) := by simpa using h
  rw [hf] at CF
  clear h hr hf hn hle hm
  go_enter Try.func26, Try.ntmps26
  go_wp2_with fail
  refine (CF.out _).mono ?_; rintro e w' ⟨rfl, rfl⟩
  go_upto_region 4 with fail
  rw [← hW1.out]
  have x9 := HX.out.2.1.cell 11
  simp only [List.getElem?_toArray, List.getElem?_cons_succ, List.getElem?_cons_zero] at x9
  go_wp2_with fail
  refine (CC.out).mono ?_; rintro e w2 ⟨ad', cap', rfl, hrd, hB2⟩
  have HR := Lib.hid hrd
  have b1 := HX.out.2.1.below hB2
  have b2 := HX.out.2.2.below hB2
  have f9 := b1.free 11
  have k9 := b1.cell 11
  simp only [List.getElem?_toArray, List.getElem?_cons_succ, List.getElem?_cons_zero] at k9
  have HB2 := Lib.hid hB2
  have B1 := Lib.hid b1
  have g1 := Lib.hid (b1.put 11 (.slice ad' body.length cap'))
  have g2 := Lib.hid (b2.far (p := ⟨w.heap.size, 11, none⟩) (by simp) (.slice ad' body.length cap'))
  clear hrd hB2 b1 b2 x9
  go_upto_region 5 with fail
  have HB3 : Hid (Below w.heap.size w (w2.setCell ⟨w.heap.size, 11, none⟩ (.slice ad' body.length cap'))) := Lib.hid ((HX.out.1.trans (HB2.out.mono HX.out.1.size)).setCell (p := ⟨w.heap.size, 11, none⟩) (Nat.le_refl w.heap.size) _)
  have HR3 : Hid (RdB (w2.setCell ⟨w.heap.size, 11, none⟩ (.slice ad' body.length cap')) ad' body) := Lib.hid (rd_other ⟨kind, (t, f, s), hops + 1, no, to, index, total, stamp, value, ad, cap, body⟩ HR.out B1.out (fun b hb => heap_setCell_other _ _ _ _ hb))
  generalize w2.setCell ⟨w.heap.size, 11, none⟩ (.slice ad' body.length cap') = w3 at *
  have HR4 : Hid (RdB (w3.setRow (w.heap.size + 1) #[.int .i64 kind, .int .i64 t, .int .i64 f, .int .u32 s, .int .i64 (hops + 1), .int .i64 no, .int .i64 to, .int .i64 index, .int .i64 total, .int .i64 stamp, .int .i64 value, .slice ad' body.length cap']) ad' body) := Lib.hid (rd_other zero HR3.out g2.out (fun b hb => setRow_other _ _ _ _ hb))
  have HB4 : Hid (Below w.heap.size w (w3.setRow (w.heap.size + 1) #[.int .i64 kind, .int .i64 t, .int .i64 f, .int .u32 s, .int .i64 (hops + 1), .int .i64 no, .int .i64 to, .int .i64 index, .int .i64 total, .int .i64 stamp, .int .i64 value, .slice ad' body.length cap'])) := Lib.hid (below_setRow HB3.out (by omega) _)
  have g4 := Lib.hid (Blk.row g2.out #[.int .i64 kind, .int .i64 t, .int .i64 f, .int .u32 s, .int .i64 (hops + 1), .int .i64 no, .int .i64 to, .int .i64 index, .int .i64 total, .int .i64 stamp, .int .i64 value, .slice ad' body.length cap'] rfl)
  have O : Hid (Array.all (#[.int .i64 kind, .int .i64 t, .int .i64 f, .int .u32 s, .int .i64 (hops + 1), .int .i64 no, .int .i64 to, .int .i64 index, .int .i64 total, .int .i64 stamp, .int .i64 value, .slice ad' body.length cap'] : Array Value) (·.oneCell') = true) := Lib.hid (by simp [Value.oneCell'])
  clear k9 f9 HB2 HX hW1 CC HR
  go_wp2_with (first
    | (refine wpList_load_row rfl 27 _ rfl _ rfl _ #[.int .i64 kind, .int .i64 t, .int .i64 f, .int .u32 s, .int .i64 (hops + 1), .int .i64 no, .int .i64 to, .int .i64 index, .int .i64 total, .int .i64 stamp, .int .i64 value, .slice ad' body.length cap'] _ _ g1.out Try.underlying27 rfl infoPk ?_)
    | (refine wpList_store_row rfl 27 _ _ rfl _ #[.int .i64 kind, .int .i64 t, .int .i64 f, .int .u32 s, .int .i64 (hops + 1), .int .i64 no, .int .i64 to, .int .i64 index, .int .i64 total, .int .i64 stamp, .int .i64 value, .slice ad' body.length cap'] rfl rfl _ _ g2.out infoPk rfl O.out ?_))
  refine bodyPost_ret (results_pk rfl _ _ (w.heap.size + 1) #[.int .i64 kind, .int .i64 t, .int .i64 f, .int .u32 s, .int .i64 (hops + 1), .int .i64 no, .int .i64 to, .int .i64 index, .int .i64 total, .int .i64 stamp, .int .i64 value, .slice ad' body.length cap'] (.bool true) rfl rfl g4.out rfl) rfl ⟨ad', cap', rfl, HR4.out, HB4.out⟩
end Go.Proofs.Ytliblcjfccijjaa.Hed
