/- Whole frames (layer 14): a packet's row as one value; what a kind has behind its head, as three functions. -/
import Derived.Test.YtanfnhgaooafeaaGreatDoorDatX
import Derived.Test.YtanfnhgaooafeaaGreatDoorPktA
namespace Go.Proofs.YtanfnhgaooafeaaGreatDoor.Sea
open Go.ChangeShapes Go.WideShapes Go.ChangeAt Go.RowKit Go.Deep
open Go.Proofs.YtanfnhgaooafeaaGreatDoor.Byt Go.Proofs.YtanfnhgaooafeaaGreatDoor.Key Go.Proofs.YtanfnhgaooafeaaGreatDoor.Buf Go.Proofs.YtanfnhgaooafeaaGreatDoor.Hed Go.Proofs.YtanfnhgaooafeaaGreatDoor.Dat Go.Proofs.YtanfnhgaooafeaaGreatDoor.BufM Go.Proofs.YtanfnhgaooafeaaGreatDoor.Pkt
set_option linter.unusedVariables false
set_option linter.unusedSimpArgs false
/-- A packet's row, loaded as one value, guarded or not. -/
theorem load_pk {ops : Array Oper} {rest : List Oper} {o : Oper} {a : Act} {w : World} {Q : Exit → Act → World → Prop} (hgd : Region.wanted o (yielded ops a.tmps) = true) (x : Operand) (ho : o.op = .load 27 x)
    (g : Nat) (hx : a.eval x = .pointer (some ⟨g, 0, none⟩)) (p : Pk) (hg : Blk w g 27 p.cells)
    (h : wpList Tryz.prog ops Q rest (a.put o.dst (pval p)) w) : wpList Tryz.prog ops Q (o :: rest) a w := by
  refine wpList_step fun K hK => ?_
  rw [if_pos hgd]
  exact wp_load_row 27 x ho g hx 27 p.cells (0, 0) _ hg Tryz.underlying27 rfl infoPk (hK _ _ h)
/-- A packet's row, stored as one value. -/
theorem store_pk {ops : Array Oper} {rest : List Oper} {o : Oper} {a : Act} {w : World} {Q : Exit → Act → World → Prop} (hgd : o.guard = none) (x y : Operand) (ho : o.op = .store 27 x y)
    (g : Nat) (p : Pk) (hx : a.eval x = .pointer (some ⟨g, 0, none⟩)) (hy : a.eval y = pval p) (old : Array Value) (hg : Blk w g 27 old) (hold : old.size = 12)
    (h : wpList Tryz.prog ops Q rest (a.put o.dst undef) (w.setRow g p.cells)) : wpList Tryz.prog ops Q (o :: rest) a w :=
  wpList_store_row hgd 27 x y ho g p.cells hx hy 27 old hg infoPk hold (pkP_one p) h
theorem infoRest : (Tryz.prog.info? 42).map (·.size) = some 3 := by kernel_rfl
theorem results_rest {fn : Func} {i j : Nat} (h : fn.results = #[.cell i 42, .tmp j]) (tmps : Array Value) (w : World) (g : Nat) (cs : Array Value) (v : Value)
    (hp : tmps.getD i undef = .pointer (some ⟨g, 0, none⟩)) (h3 : tmps.getD j undef = v) (hg : Blk w g 42 cs) (hs : cs.size = 3) :
    (results fn tmps).run Tryz.prog w = .ok (.tuple #[.agg cs, v]) w := by
  have hp' : tmps[i]?.getD undef = .pointer (some ⟨g, 0, none⟩) := by simpa using hp
  have h3' : tmps[j]?.getD undef = v := by simpa using h3
  simp [results, h, hp', h3', asAddr, run_loadVar_row w g 42 _ cs (0, 0) _ hg Tryz.underlying42 rfl (by rw [hs]; exact infoRest)]
/-- Three functions. -/
def fcs (f g h : Nat) : Array Value := #[.func (.func f) #[] #[], .func (.func g) #[] #[], .func (.func h) #[] #[]]
def RPs (cs : Array Value) (b : Bool) (w : World) (e : Ending) (w' : World) : Prop := e = .returned (.tuple #[.agg cs, .bool b]) ∧ Below w.heap.size w w'
set_option maxRecDepth 100000 in
set_option maxHeartbeats 1000000 in
theorem rest_123 (k : Int) (hk : k = 1 ∨ k = 2 ∨ k = 3) (w : World) :
    Calls Tryz.prog 13 #[.int .i64 k] w (RPs (fcs 31 32 33) true w) := by
  have HB : Below w.heap.size w ((w.alloc (.cells #[.nilFunc, .nilFunc, .nilFunc] 42)).setRow w.heap.size #[.func (.func 31) #[] #[], .func (.func 32) #[] #[], .func (.func 33) #[] #[]]) := below_setRow ((Below.refl _ _).alloc (Nat.le_refl _) _) (Nat.le_refl _) _
  have HK : Blk ((w.alloc (.cells #[.nilFunc, .nilFunc, .nilFunc] 42)).setRow w.heap.size #[.func (.func 31) #[] #[], .func (.func 32) #[] #[], .func (.func 33) #[] #[]]) w.heap.size 42 #[.func (.func 31) #[] #[], .func (.func 32) #[] #[], .func (.func 33) #[] #[]] := Blk.row (Blk.new w _ _) _ rfl
  have HO : Hid (Array.all (#[.func (.func 31) #[] #[], .func (.func 32) #[] #[], .func (.func 33) #[] #[]] : Array Value) (·.oneCell') = true) := Lib.hid (by simp [Value.oneCell'])
  have HB := Lib.hid HB
  have HK := Lib.hid HK
  unfold fcs
  rcases hk with rfl | rfl | rfl
  all_goals
    go_enter Tryz.func13, Tryz.ntmps13
    go_wp2_with (refine wpList_store_row rfl 42 _ _ rfl w.heap.size #[.func (.func 31) #[] #[], .func (.func 32) #[] #[], .func (.func 33) #[] #[]] rfl rfl 42 #[.nilFunc, .nilFunc, .nilFunc] (heap_alloc_last w _) infoRest rfl HO.out ?_)
    exact bodyPost_ret (results_rest rfl _ _ w.heap.size #[.func (.func 31) #[] #[], .func (.func 32) #[] #[], .func (.func 33) #[] #[]] _ rfl rfl HK.out rfl) rfl ⟨rfl, HB.out⟩
set_option maxRecDepth 100000 in
set_option maxHeartbeats 1000000 in
theorem rest_4 (k : Int) (hk : k = 4) (w : World) :
    Calls Tryz.prog 13 #[.int .i64 k] w (RPs (fcs 34 35 36) true w) := by
  have HB : Below w.heap.size w ((w.alloc (.cells #[.nilFunc, .nilFunc, .nilFunc] 42)).setRow w.heap.size #[.func (.func 34) #[] #[], .func (.func 35) #[] #[], .func (.func 36) #[] #[]]) := below_setRow ((Below.refl _ _).alloc (Nat.le_refl _) _) (Nat.le_refl _) _
  have HK : Blk ((w.alloc (.cells #[.nilFunc, .nilFunc, .nilFunc] 42)).setRow w.heap.size #[.func (.func 34) #[] #[], .func (.func 35) #[] #[], .func (.func 36) #[] #[]]) w.heap.size 42 #[.func (.func 34) #[] #[], .func (.func 35) #[] #[], .func (.func 36) #[] #[]] := Blk.row (Blk.new w _ _) _ rfl
  have HO : Hid (Array.all (#[.func (.func 34) #[] #[], .func (.func 35) #[] #[], .func (.func 36) #[] #[]] : Array Value) (·.oneCell') = true) := Lib.hid (by simp [Value.oneCell'])
  have HB := Lib.hid HB
  have HK := Lib.hid HK
  unfold fcs
  subst hk
  all_goals
    go_enter Tryz.func13, Tryz.ntmps13
    go_wp2_with (refine wpList_store_row rfl 42 _ _ rfl w.heap.size #[.func (.func 34) #[] #[], .func (.func 35) #[] #[], .func (.func 36) #[] #[]] rfl rfl 42 #[.nilFunc, .nilFunc, .nilFunc] (heap_alloc_last w _) infoRest rfl HO.out ?_)
    exact bodyPost_ret (results_rest rfl _ _ w.heap.size #[.func (.func 34) #[] #[], .func (.func 35) #[] #[], .func (.func 36) #[] #[]] _ rfl rfl HK.out rfl) rfl ⟨rfl, HB.out⟩
set_option maxRecDepth 100000 in
set_option maxHeartbeats 1000000 in
theorem rest_5 (k : Int) (hk : k = 5) (w : World) :
    Calls Tryz.prog 13 #[.int .i64 k] w (RPs (fcs 37 38 39) true w) := by
  have HB : Below w.heap.size w ((w.alloc (.cells #[.nilFunc, .nilFunc, .nilFunc] 42)).setRow w.heap.size #[.func (.func 37) #[] #[], .func (.func 38) #[] #[], .func (.func 39) #[] #[]]) := below_setRow ((Below.refl _ _).alloc (Nat.le_refl _) _) (Nat.le_refl _) _
  have HK : Blk ((w.alloc (.cells #[.nilFunc, .nilFunc, .nilFunc] 42)).setRow w.heap.size #[.func (.func 37) #[] #[], .func (.func 38) #[] #[], .func (.func 39) #[] #[]]) w.heap.size 42 #[.func (.func 37) #[] #[], .func (.func 38) #[] #[], .func (.func 39) #[] #[]] := Blk.row (Blk.new w _ _) _ rfl
  have HO : Hid (Array.all (#[.func (.func 37) #[] #[], .func (.func 38) #[] #[], .func (.func 39) #[] #[]] : Array Value) (·.oneCell') = true) := Lib.hid (by simp [Value.oneCell'])
  have HB := Lib.hid HB
  have HK := Lib.hid HK
  unfold fcs
  subst hk
  all_goals
    go_enter Tryz.func13, Tryz.ntmps13
    go_wp2_with (refine wpList_store_row rfl 42 _ _ rfl w.heap.size #[.func (.func 37) #[] #[], .func (.func 38) #[] #[], .func (.func 39) #[] #[]] rfl rfl 42 #[.nilFunc, .nilFunc, .nilFunc] (heap_alloc_last w _) infoRest rfl HO.out ?_)
    exact bodyPost_ret (results_rest rfl _ _ w.heap.size #[.func (.func 37) #[] #[], .func (.func 38) #[] #[], .func (.func 39) #[] #[]] _ rfl rfl HK.out rfl) rfl ⟨rfl, HB.out⟩
set_option maxRecDepth 100000 in
set_option maxHeartbeats 1000000 in
theorem rest_6 (k : Int) (hk : k = 6) (w : World) :
    Calls Tryz.prog 13 #[.int .i64 k] w (RPs (fcs 40 41 42) true w) := by
  have HB : Below w.heap.size w ((w.alloc (.cells #[.nilFunc, .nilFunc, .nilFunc] 42)).setRow w.heap.size #[.func (.func 40) #[] #[], .func (.func 41) #[] #[], .func (.func 42) #[] #[]]) := below_setRow ((Below.refl _ _).alloc (Nat.le_refl _) _) (Nat.le_refl _) _
  have HK : Blk ((w.alloc (.cells #[.nilFunc, .nilFunc, .nilFunc] 42)).setRow w.heap.size #[.func (.func 40) #[] #[], .func (.func 41) #[] #[], .func (.func 42) #[] #[]]) w.heap.size 42 #[.func (.func 40) #[] #[], .func (.func 41) #[] #[], .func (.func 42) #[] #[]] := Blk.row (Blk.new w _ _) _ rfl
  have HO : Hid (Array.all (#[.func (.func 40) #[] #[], .func (.func 41) #[] #[], .func (.func 42) #[] #[]] : Array Value) (·.oneCell') = true) := Lib.hid (by simp [Value.oneCell'])
  have HB := Lib.hid HB
  have HK := Lib.hid HK
  unfold fcs
  subst hk
  all_goals
    go_enter Tryz.func13, Tryz.ntmps13
    go_wp2_with (refine wpList_store_row rfl 42 _ _ rfl w.heap.size #[.func (.func 40) #[] #[], .func (.func 41) #[] #[], .func (.func 42) #[] #[]] rfl rfl 42 #[.nilFunc, .nilFunc, .nilFunc] (heap_alloc_last w _) infoRest rfl HO.out ?_)
    exact bodyPost_ret (results_rest rfl _ _ w.heap.size #[.func (.func 40) #[] #[], .func (.func 41) #[] #[], .func (.func 42) #[] #[]] _ rfl rfl HK.out rfl) rfl ⟨rfl, HB.out⟩
set_option maxRecDepth 100000 in
set_option maxHeartbeats 1000000 in
theorem rest_none (k : Int) (hk : ¬ (1 ≤ k ∧ k ≤ 6)) (w : World) :
    Calls Tryz.prog 13 #[.int .i64 k] w (RPs #[.nilFunc, .nilFunc, .nilFunc] false w) := by
  have HB : Below w.heap.size w ((w.alloc (.cells #[.nilFunc, .nilFunc, .nilFunc] 42)).setRow w.heap.size #[.nilFunc, .nilFunc, .nilFunc]) := below_setRow ((Below.refl _ _).alloc (Nat.le_refl _) _) (Nat.le_refl _) _
  have HK : Blk ((w.alloc (.cells #[.nilFunc, .nilFunc, .nilFunc] 42)).setRow w.heap.size #[.nilFunc, .nilFunc, .nilFunc]) w.heap.size 42 #[.nilFunc, .nilFunc, .nilFunc] := Blk.row (Blk.new w _ _) _ rfl
  have HO : Hid (Array.all (#[.nilFunc, .nilFunc, .nilFunc] : Array Value) (·.oneCell') = true) := Lib.hid (by simp [Value.oneCell'])
  have HB := Lib.hid HB
  have HK := Lib.hid HK
  have n1 : (k == 1) = false := by simp; omega
  have n2 : (k == 2) = false := by simp; omega
  have n3 : (k == 3) = false := by simp; omega
  have n4 : (k == 4) = false := by simp; omega
  have n5 : (k == 5) = false := by simp; omega
  have n6 : (k == 6) = false := by simp; omega
  clear hk
  go_enter Tryz.func13, Tryz.ntmps13
  go_wp2_with (refine wpList_store_row rfl 42 _ _ rfl w.heap.size #[.nilFunc, .nilFunc, .nilFunc] rfl rfl 42 #[.nilFunc, .nilFunc, .nilFunc] (heap_alloc_last w _) infoRest rfl HO.out ?_)
  exact bodyPost_ret (results_rest rfl _ _ w.heap.size #[.nilFunc, .nilFunc, .nilFunc] _ rfl rfl HK.out rfl) rfl ⟨rfl, HB.out⟩
end Go.Proofs.YtanfnhgaooafeaaGreatDoor.Sea
