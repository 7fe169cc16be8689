/- Whole frames (layer 14): a packet's row as one value; what a kind has behind its head, as three functions. -/
import Derived.Test.YtanfnhgaooafeaaDoorDatX
import Derived.Test.YtanfnhgaooafeaaDoorPktA
namespace Go.Proofs.YtanfnhgaooafeaaDoor.Sea
open Go.ChangeShapes Go.WideShapes Go.ChangeAt Go.RowKit Go.Deep
open Go.Proofs.YtanfnhgaooafeaaDoor.Byt Go.Proofs.YtanfnhgaooafeaaDoor.Key Go.Proofs.YtanfnhgaooafeaaDoor.Buf Go.Proofs.YtanfnhgaooafeaaDoor.Hed Go.Proofs.YtanfnhgaooafeaaDoor.Dat Go.Proofs.YtanfnhgaooafeaaDoor.BufM Go.Proofs.YtanfnhgaooafeaaDoor.Pkt
set_option linter.unusedVariables false
set_option linter.unusedSimpArgs false
/-- A packet's row, loaded as one value, guarded or not. -/
theorem load_pk {ops : Array Oper} {rest : List Oper} {o : Oper} {a : Act} {w : World} {Q : Exit → Act → World → Prop} (hgd : Region.wanted o (yielded ops a.tmps) = true) (x : Operand) (ho : o.op = .load 27 x)
    (g : Nat) (hx : a.eval x = .pointer (some ⟨g, 0, none⟩)) (p : Pk) (hg : Blk w g 27 p.cells)
    (h : wpList Tryd.prog ops Q rest (a.put o.dst (pval p)) w) : wpList Tryd.prog ops Q (o :: rest) a w := by
  refine wpList_step fun K hK => ?_
  rw [if_pos hgd]
  exact wp_load_row 27 x ho g hx 27 p.cells (0, 0) _ hg Tryd.underlying27 rfl infoPk (hK _ _ h)
/-- A packet's row, stored as one value. -/
theorem store_pk {ops : Array Oper} {rest : List Oper} {o : Oper} {a : Act} {w : World} {Q : Exit → Act → World → Prop} (hgd : o.guard = none) (x y : Operand) (ho : o.op = .store 27 x y)
    (g : Nat) (p : Pk) (hx : a.eval x = .pointer (some ⟨g, 0, none⟩)) (hy : a.eval y = pval p) (old : Array Value) (hg : Blk w g 27 old) (hold : old.size = 12)
    (h : wpList Tryd.prog ops Q rest (a.put o.dst undef) (w.setRow g p.cells)) : wpList Tryd.prog ops Q (o :: rest) a w :=
  wpList_store_row hgd 27 x y ho g p.cells hx hy 27 old hg infoPk hold (pkP_one p) h
theorem infoRest : (Tryd.prog.info? 56).map (·.size) = some 3 := by kernel_rfl
theorem results_rest {fn : Func} {i j : Nat} (h : fn.results = #[.cell i 56, .tmp j]) (tmps : Array Value) (w : World) (g : Nat) (cs : Array Value) (v : Value)
    (hp : tmps.getD i undef = .pointer (some ⟨g, 0, none⟩)) (h3 : tmps.getD j undef = v) (hg : Blk w g 56 cs) (hs : cs.size = 3) :
    (results fn tmps).run Tryd.prog w = .ok (.tuple #[.agg cs, v]) w := by
  have hp' : tmps[i]?.getD undef = .pointer (some ⟨g, 0, none⟩) := by simpa using hp
  have h3' : tmps[j]?.getD undef = v := by simpa using h3
  simp [results, h, hp', h3', asAddr, run_loadVar_row w g 56 _ cs (0, 0) _ hg Tryd.underlying56 rfl (by rw [hs]; exact infoRest)]
/-- Three functions. -/
def fcs (f g h : Nat) : Array Value := #[.func (.func f) #[] #[], .func (.func g) #[] #[], .func (.func h) #[] #[]]
def RPs (cs : Array Value) (b : Bool) (w : World) (e : Ending) (w' : World) : Prop := e = .returned (.tuple #[.agg cs, .bool b]) ∧ Below w.heap.size w w'
set_option maxRecDepth 100000 in
set_option maxHeartbeats 1000000 in
theorem rest_123 (k : Int) (hk : k = 1 ∨ k = 2 ∨ k = 3) (w : World) :
    Calls Tryd.prog 28 #[.int .i64 k] w (RPs (fcs 46 47 48) true w) := by
  have HB : Below w.heap.size w ((w.alloc (.cells #[.nilFunc, .nilFunc, .nilFunc] 56)).setRow w.heap.size #[.func (.func 46) #[] #[], .func (.func 47) #[] #[], .func (.func 48) #[] #[]]) := below_setRow ((Below.refl _ _).alloc (Nat.le_refl _) _) (Nat.le_refl _) _
  have HK : Blk ((w.alloc (.cells #[.nilFunc, .nilFunc, .nilFunc] 56)).setRow w.heap.size #[.func (.func 46) #[] #[], .func (.func 47) #[] #[], .func (.func 48) #[] #[]]) w.heap.size 56 #[.func (.func 46) #[] #[], .func (.func 47) #[] #[], .func (.func 48) #[] #[]] := Blk.row (Blk.new w _ _) _ rfl
  have HO : Hid (Array.all (#[.func (.func 46) #[] #[], .func (.func 47) #[] #[], .func (.func 48) #[] #[]] : Array Value) (·.oneCell') = true) := Lib.hid (by simp [Value.oneCell'])
  have HB := Lib.hid HB
  have HK := Lib.hid HK
  unfold fcs
  rcases hk with rfl | rfl | rfl
  all_goals
    go_enter Tryd.func28, Tryd.ntmps28
    go_wp2_with (refine wpList_store_row rfl 56 _ _ rfl w.heap.size #[.func (.func 46) #[] #[], .func (.func 47) #[] #[], .func (.func 48) #[] #[]] rfl rfl 56 #[.nilFunc, .nilFunc, .nilFunc] (heap_alloc_last w _) infoRest rfl HO.out ?_)
    exact bodyPost_ret (results_rest rfl _ _ w.heap.size #[.func (.func 46) #[] #[], .func (.func 47) #[] #[], .func (.func 48) #[] #[]] _ rfl rfl HK.out rfl) rfl ⟨rfl, HB.out⟩
set_option maxRecDepth 100000 in
set_option maxHeartbeats 1000000 in
theorem rest_4 (k : Int) (hk : k = 4) (w : World) :
    Calls Tryd.prog 28 #[.int .i64 k] w (RPs (fcs 49 50 51) true w) := by
  have HB : Below w.heap.size w ((w.alloc (.cells #[.nilFunc, .nilFunc, .nilFunc] 56)).setRow w.heap.size #[.func (.func 49) #[] #[], .func (.func 50) #[] #[], .func (.func 51) #[] #[]]) := below_setRow ((Below.refl _ _).alloc (Nat.le_refl _) _) (Nat.le_refl _) _
  have HK : Blk ((w.alloc (.cells #[.nilFunc, .nilFunc, .nilFunc] 56)).setRow w.heap.size #[.func (.func 49) #[] #[], .func (.func 50) #[] #[], .func (.func 51) #[] #[]]) w.heap.size 56 #[.func (.func 49) #[] #[], .func (.func 50) #[] #[], .func (.func 51) #[] #[]] := Blk.row (Blk.new w _ _) _ rfl
  have HO : Hid (Array.all (#[.func (.func 49) #[] #[], .func (.func 50) #[] #[], .func (.func 51) #[] #[]] : Array Value) (·.oneCell') = true) := Lib.hid (by simp [Value.oneCell'])
  have HB := Lib.hid HB
  have HK := Lib.hid HK
  unfold fcs
  subst hk
  all_goals
    go_enter Tryd.func28, Tryd.ntmps28
    go_wp2_with (refine wpList_store_row rfl 56 _ _ rfl w.heap.size #[.func (.func 49) #[] #[], .func (.func 50) #[] #[], .func (.func 51) #[] #[]] rfl rfl 56 #[.nilFunc, .nilFunc, .nilFunc] (heap_alloc_last w _) infoRest rfl HO.out ?_)
    exact bodyPost_ret (results_rest rfl _ _ w.heap.size #[.func (.func 49) #[] #[], .func (.func 50) #[] #[], .func (.func 51) #[] #[]] _ rfl rfl HK.out rfl) rfl ⟨rfl, HB.out⟩
set_option maxRecDepth 100000 in
set_option maxHeartbeats 1000000 in
theorem rest_5 (k : Int) (hk : k = 5) (w : World) :
    Calls Tryd.prog 28 #[.int .i64 k] w (RPs (fcs 52 53 54) true w) := by
  have HB : Below w.heap.size w ((w.alloc (.cells #[.nilFunc, .nilFunc, .nilFunc] 56)).setRow w.heap.size #[.func (.func 52) #[] #[], .func (.func 53) #[] #[], .func (.func 54) #[] #[]]) := below_setRow ((Below.refl _ _).alloc (Nat.le_refl _) _) (Nat.le_refl _) _
  have HK : Blk ((w.alloc (.cells #[.nilFunc, .nilFunc, .nilFunc] 56)).setRow w.heap.size #[.func (.func 52) #[] #[], .func (.func 53) #[] #[], .func (.func 54) #[] #[]]) w.heap.size 56 #[.func (.func 52) #[] #[], .func (.func 53) #[] #[], .func (.func 54) #[] #[]] := Blk.row (Blk.new w _ _) _ rfl
  have HO : Hid (Array.all (#[.func (.func 52) #[] #[], .func (.func 53) #[] #[], .func (.func 54) #[] #[]] : Array Value) (·.oneCell') = true) := Lib.hid (by simp [Value.oneCell'])
  have HB := Lib.hid HB
  have HK := Lib.hid HK
  unfold fcs
  subst hk
  all_goals
    go_enter Tryd.func28, Tryd.ntmps28
    go_wp2_with (refine wpList_store_row rfl 56 _ _ rfl w.heap.size #[.func (.func 52) #[] #[], .func (.func 53) #[] #[], .func (.func 54) #[] #[]] rfl rfl 56 #[.nilFunc, .nilFunc, .nilFunc] (heap_alloc_last w _) infoRest rfl HO.out ?_)
    exact bodyPost_ret (results_rest rfl _ _ w.heap.size #[.func (.func 52) #[] #[], .func (.func 53) #[] #[], .func (.func 54) #[] #[]] _ rfl rfl HK.out rfl) rfl ⟨rfl, HB.out⟩
set_option maxRecDepth 100000 in
set_option maxHeartbeats 1000000 in
theorem rest_6 (k : Int) (hk : k = 6) (w : World) :
    Calls Tryd.prog 28 #[.int .i64 k] w (RPs (fcs 55 56 57) true w) := by
  have HB : Below w.heap.size w ((w.alloc (.cells #[.nilFunc, .nilFunc, .nilFunc] 56)).setRow w.heap.size #[.func (.func 55) #[] #[], .func (.func 56) #[] #[], .func (.func 57) #[] #[]]) := below_setRow ((Below.refl _ _).alloc (Nat.le_refl _) _) (Nat.le_refl _) _
  have HK : Blk ((w.alloc (.cells #[.nilFunc, .nilFunc, .nilFunc] 56)).setRow w.heap.size #[.func (.func 55) #[] #[], .func (.func 56) #[] #[], .func (.func 57) #[] #[]]) w.heap.size 56 #[.func (.func 55) #[] #[], .func (.func 56) #[] #[], .func (.func 57) #[] #[]] := Blk.row (Blk.new w _ _) _ rfl
  have HO : Hid (Array.all (#[.func (.func 55) #[] #[], .func (.func 56) #[] #[], .func (.func 57) #[] #[]] : Array Value) (·.oneCell') = true) := Lib.hid (by simp [Value.oneCell'])
  have HB := Lib.hid HB
  have HK := Lib.hid HK
  unfold fcs
  subst hk
  all_goals
    go_enter Tryd.func28, Tryd.ntmps28
    go_wp2_with (refine wpList_store_row rfl 56 _ _ rfl w.heap.size #[.func (.func 55) #[] #[], .func (.func 56) #[] #[], .func (.func 57) #[] #[]] rfl rfl 56 #[.nilFunc, .nilFunc, .nilFunc] (heap_alloc_last w _) infoRest rfl HO.out ?_)
    exact bodyPost_ret (results_rest rfl _ _ w.heap.size #[.func (.func 55) #[] #[], .func (.func 56) #[] #[], .func (.func 57) #[] #[]] _ rfl rfl HK.out rfl) rfl ⟨rfl, HB.out⟩
set_option maxRecDepth 100000 in
set_option maxHeartbeats 1000000 in
theorem rest_none (k : Int) (hk : ¬ (1 ≤ k ∧ k ≤ 6)) (w : World) :
    Calls Tryd.prog 28 #[.int .i64 k] w (RPs #[.nilFunc, .nilFunc, .nilFunc] false w) := by
  have HB : Below w.heap.size w ((w.alloc (.cells #[.nilFunc, .nilFunc, .nilFunc] 56)).setRow w.heap.size #[.nilFunc, .nilFunc, .nilFunc]) := below_setRow ((Below.refl _ _).alloc (Nat.le_refl _) _) (Nat.le_refl _) _
  have HK : Blk ((w.alloc (.cells #[.nilFunc, .nilFunc, .nilFunc] 56)).setRow w.heap.size #[.nilFunc, .nilFunc, .nilFunc]) w.heap.size 56 #[.nilFunc, .nilFunc, .nilFunc] := Blk.row (Blk.new w _ _) _ rfl
  have HO : Hid (Array.all (#[.nilFunc, .nilFunc, .nilFunc] : Array Value) (·.oneCell') = true) := Lib.hid (by simp [Value.oneCell'])
  have HB := Lib.hid HB
  have HK := Lib.hid HK
  have n1 : (k == 1) = false := by simp; omega
  have n2 : (k == 2) = false := by simp; omega
  have n3 : (k == 3) = false := by simp; omega
  have n4 : (k == 4) = false := by simp; omega
  have n5 : (k == 5) = false := by simp; omega
  have n6 : (k == 6) = false := by simp; omega
  clear hk
  go_enter Tryd.func28, Tryd.ntmps28
  go_wp2_with (refine wpList_store_row rfl 56 _ _ rfl w.heap.size #[.nilFunc, .nilFunc, .nilFunc] rfl rfl 56 #[.nilFunc, .nilFunc, .nilFunc] (heap_alloc_last w _) infoRest rfl HO.out ?_)
  exact bodyPost_ret (results_rest rfl _ _ w.heap.size #[.nilFunc, .nilFunc, .nilFunc] _ rfl rfl HK.out rfl) rfl ⟨rfl, HB.out⟩
end Go.Proofs.YtanfnhgaooafeaaDoor.Sea
