/- Contracts of package crc (layer 4): sums, four bits at a step; the sum of parts. -/
import Derived.Test.YtgacljanapmnfaaDoorCrcA
import Derived.Deep.WholeRow
namespace Go.Proofs.YtgacljanapmnfaaDoor.Crc
open Go.ChangeShapes Go.WideShapes Go.ChangeAt Go.RowKit
open Go.Proofs.YtgacljanapmnfaaDoor.Byt
set_option linter.unusedVariables false
theorem rsum_any (ad : Option Addr) (len cap : Nat) (l : List UInt8) (w : World) (hlen : l.length = len) (hm : len ≤ 9223372036854775807) (hr : RdB w ad l) :
    Calls Tryd.prog 11 #[.slice ad len cap] w fun e w' => e = .returned (.int .u32 ((sumB l : Nat) : Int)) ∧ w = w' := by
  have C := Lib.hid (fun c => rmore_any 4294967295 (by omega) ad len c l w hlen hm hr)
  have H1 := mor_lt l ones_lt
  have HS := Lib.hid (show sumB l = 4294967295 - mor 4294967295 l from rfl)
  rw [show ones = 4294967295 from rfl] at H1
  clear hlen hr
  generalize mor 4294967295 l = r at *
  have h2 : r ≤ 4294967295 := by omega
  go_enter Tryd.func11, Tryd.ntmps11
  go_wp2_with fail
  refine (C.out _).mono ?_; rintro e w' ⟨rfl, rfl⟩
  go_wp2_with fail
  go_ret
  exact ⟨ret_int (by rw [HS.out]; omega), rfl⟩
theorem rMore_any (s : Nat) (hs : s < 4294967296) (ad : Option Addr) (len cap : Nat) (l : List UInt8) (w : World) (hlen : l.length = len) (hm : len ≤ 9223372036854775807) (hr : RdB w ad l) :
    Calls Tryd.prog 14 #[.int .u32 s, .slice ad len cap] w fun e w' => e = .returned (.int .u32 ((moreB s l : Nat) : Int)) ∧ w = w' := by
  have C := Lib.hid (fun c => rmore_any (4294967295 - s) (by omega) ad len c l w hlen hm hr)
  have H1 := mor_lt (s := 4294967295 - s) l (by omega)
  have HS := Lib.hid (show moreB s l = 4294967295 - mor (4294967295 - s) l from rfl)
  clear hlen hr
  generalize mor (4294967295 - s) l = r at *
  have h2 : r ≤ 4294967295 := by omega
  have e1 : ((4294967295 - s : Nat) : Int) = 4294967295 - (s : Int) := by omega
  rw [e1] at C
  clear e1
  go_enter Tryd.func14, Tryd.ntmps14
  go_wp2_with fail
  refine (C.out _).mono ?_; rintro e w' ⟨rfl, rfl⟩
  go_wp2_with fail
  go_ret
  exact ⟨ret_int (by rw [HS.out]; omega), rfl⟩

/-- The table of four bits lies in its variable. -/
def Tabs (w : World) : Prop := (∀ j, j < 16 → w.cell? ⟨0, j, none⟩ = some (.int .u32 ((fourN j : Nat) : Int))) ∧ 0 < w.heap.size
theorem Tabs.below {w w' : World} (h : Tabs w) (hb : Below w.heap.size w w') : Tabs w' :=
  ⟨fun j hj => (hb.cell (p := ⟨0, j, none⟩) h.2).trans (h.1 j hj), Nat.lt_of_lt_of_le h.2 hb.size⟩
theorem not_u32 (s : Nat) (hs : s < 4294967296) : Go.bits .xor .u32 IntKind.u32.max (s : Int) = ((4294967295 - s : Nat) : Int) := by
  rw [show IntKind.u32.max = ((4294967295 : Nat) : Int) from by decide, xor_u32 _ s (by omega) hs]; exact congrArg (fun n : Nat => (n : Int)) (flip (r := s) hs).symm
/-- Four bits at a step, as the walk reckons them. -/
theorem nib_step (a : Nat) (h : a < 4294967296) : Go.bits .and .u32 (a : Int) 15 = ((a % 16 : Nat) : Int) ∧ a % 16 < 16 ∧ (((a % 16 : Nat) : Int)).toNat = a % 16 ∧ Go.bits .xor .u32 ((a : Int) / 16) ((fourN (a % 16) : Nat) : Int) = ((nib a : Nat) : Int) := by
  refine ⟨and15_u32 a h, Nat.mod_lt _ (by decide), Int.toNat_natCast _, ?_⟩
  have := xor_u32 (a / 16) (fourN (a % 16)) (by omega) (four_lt _ (Nat.mod_lt _ (by decide)))
  exact this
theorem more_any (s : Nat) (hs : s < 4294967296) (ad : Option Addr) (len cap : Nat) (l : List UInt8) (w : World) (hlen : l.length = len) (hm : len ≤ 9223372036854775807) (hr : RdB w ad l) (hT : Tabs w) :
    Calls Tryd.prog 13 #[.int .u32 s, .slice ad len cap] w fun e w' => e = .returned (.int .u32 ((moreB s l : Nat) : Int)) ∧ w = w' := by
  have HL := Lib.hid hlen
  have HR := Lib.hid hr
  have HT := Lib.hid hT.1
  have HX0 := Lib.hid (not_u32 s hs)
  clear hlen hr hT
  go_enter Tryd.func13, Tryd.ntmps13
  go_wp2_with fail
  go_loop [0, 11] (fun v i => ∃ k q : Nat, k ≤ len ∧ i = .int .i64 k ∧ v = .int .u32 q ∧ Hid (q = mor (4294967295 - s) (l.take k)) ∧ q < 4294967296) (fun _ i => len - (intOf i).toNat)
  case atStart => exact ⟨0, 4294967295 - s, Nat.zero_le _, rfl, by rw [HX0.out], Lib.hid (by rw [List.take_zero, mor_nil]), by omega⟩
  case round =>
    obtain ⟨k, q, hk, rfl, rfl, hq, hq2⟩ := hrel
    by_cases hlt : k < len
    · obtain ⟨b, off, rfl, hc⟩ := HR.out.at (k := k) (by rw [HL.out]; exact hlt)
      have HS := Lib.hid (take_snoc (l := l) (k := k) (by rw [HL.out]; exact hlt))
      generalize l.getD k 0 = x at *
      have hx := x.toNat_lt
      have HM := Lib.hid (mor_snoc (4294967295 - s) (l.take k) x)
      rw [← hq.out, ← HS.out] at HM
      have hA := xor_byte_lt hq2 x
      have e1 := xor_u32 q x.toNat hq2 (by omega)
      generalize x.toNat = y at *
      generalize q ^^^ y = a at *
      obtain ⟨n1, n2, n3, n4⟩ := nib_step a hA
      have hB := nib_lt hA
      generalize nib a = a2 at *
      obtain ⟨m1, m2, m3, m4⟩ := nib_step a2 hB
      have hC := nib_lt hB
      generalize nib a2 = a3 at *
      have c1 := HT.out (a % 16) n2
      have c2 := HT.out (a2 % 16) m2
      have f1 : fourN (a % 16) < 4294967296 := four_lt _ n2
      have f2 : fourN (a2 % 16) < 4294967296 := four_lt _ m2
      generalize fourN (a % 16) = g1 at *
      generalize fourN (a2 % 16) = g2 at *
      go_wp2_with fail
      go_round
      case rel => exact ⟨k + 1, a3, by omega, by go_num, rfl, Lib.hid HM.out.symm, hC⟩
      case measure => simp [intOf]; omega
    · obtain rfl : k = len := by omega
      have hE := Lib.hid (not_u32 q hq2)
      have HTK := Lib.hid (show moreB s l = 4294967295 - q by
        have := hq.out; rw [List.take_of_length_le (by rw [HL.out]; exact Nat.le_refl _)] at this; rw [this]; rfl)
      go_wp2_with fail
      go_ret
      exact ⟨ret_int (by rw [HTK.out]; exact hE.out), rfl⟩

/-- Bytes in memory, one of the parts. -/
structure Part where
  ad : Option Addr
  cap : Nat
  l : List UInt8
  deriving Inhabited
def Part.v (p : Part) : Value := .slice p.ad p.l.length p.cap
def Part.ok (w : World) (p : Part) : Prop := RdB w p.ad p.l ∧ p.l.length ≤ 9223372036854775807
def join (ps : List Part) : List UInt8 := ps.flatMap Part.l
/-- A slice of parts. -/
def RdP (w : World) (ad : Option Addr) (ps : List Part) : Prop :=
  ps = [] ∨ ∃ b off, ad = some ⟨b, off, none⟩ ∧ ∀ i, i < ps.length → w.cell? ⟨b, off + i, none⟩ = some ((ps.getD i default).v)
theorem RdP.at {w : World} {ad : Option Addr} {ps : List Part} (h : RdP w ad ps) {k : Nat} (hk : k < ps.length) : ∃ b off, ad = some ⟨b, off, none⟩ ∧ w.cell? ⟨b, off + k, none⟩ = some (ps.getD k default).v := by
  rcases h with rfl | ⟨b, off, e, hc⟩
  · simp at hk
  · exact ⟨b, off, e, hc k hk⟩
theorem part_snoc {ps : List Part} {k : Nat} (hk : k < ps.length) : ps.take (k + 1) = ps.take k ++ [ps.getD k default] := by
  rw [List.take_succ_eq_append_getElem hk]; simp [hk]
theorem part_mem {ps : List Part} {k : Nat} (hk : k < ps.length) : ps.getD k default ∈ ps := by
  have : ps.getD k default = ps[k] := by simp [hk]
  rw [this]; exact List.getElem_mem hk
theorem sum_any (ad : Option Addr) (len cap : Nat) (ps : List Part) (w : World) (hlen : ps.length = len) (hm : len ≤ 9223372036854775807) (hr : RdP w ad ps) (hp : ∀ p ∈ ps, p.ok w) (hT : Tabs w) :
    Calls Tryd.prog 10 #[.slice ad len cap] w fun e w' => e = .returned (.int .u32 ((sumB (join ps) : Nat) : Int)) ∧ w = w' := by
  have HL := Lib.hid hlen
  have HR := Lib.hid hr
  have HP := Lib.hid hp
  have C : Hid (∀ (q : Nat) (p : Part), q < 4294967296 → p.ok w → Calls Tryd.prog 13 #[.int .u32 q, p.v] w fun e w' => e = .returned (.int .u32 ((moreB q p.l : Nat) : Int)) ∧ w = w') :=
    Lib.hid (fun q p h1 h2 => more_any q h1 p.ad p.l.length p.cap p.l w rfl h2.2 h2.1 hT)
  clear hlen hr hp hT
  go_enter Tryd.func10, Tryd.ntmps10
  go_wp2_with fail
  go_loop [3, 8] (fun v i => ∃ k q : Nat, k ≤ len ∧ i = .int .i64 k ∧ v = .int .u32 q ∧ Hid (q = sumB (join (ps.take k))) ∧ q < 4294967296) (fun _ i => len - (intOf i).toNat)
  case atStart => exact ⟨0, 0, Nat.zero_le _, rfl, rfl, Lib.hid (by rw [List.take_zero]; rfl), by omega⟩
  case round =>
    obtain ⟨k, q, hk, rfl, rfl, hq, hq2⟩ := hrel
    by_cases hlt : k < len
    · obtain ⟨b, off, rfl, hc⟩ := HR.out.at (k := k) (by rw [HL.out]; exact hlt)
      have CC := Lib.hid (C.out q _ hq2 (HP.out _ (part_mem (ps := ps) (k := k) (by rw [HL.out]; exact hlt))))
      have HS := Lib.hid (part_snoc (ps := ps) (k := k) (by rw [HL.out]; exact hlt))
      generalize ps.getD k default = x at *
      have HM := Lib.hid (show moreB q x.l = sumB (join (ps.take (k + 1))) by
        rw [hq.out, HS.out, more_sum]; unfold join; rw [List.flatMap_append, List.flatMap_cons, List.flatMap_nil, List.append_nil])
      have hB : moreB q x.l < 4294967296 := flip_lt
      generalize moreB q x.l = r at *
      generalize x.v = y at *
      go_wp2_with fail
      refine (CC.out).mono ?_; rintro e w' ⟨rfl, rfl⟩
      go_wp2_with fail
      go_round
      case rel => exact ⟨k + 1, r, by omega, by go_num, rfl, HM, hB⟩
      case measure => simp [intOf]; omega
    · obtain rfl : k = len := by omega
      go_wp2_with fail
      go_ret
      exact ⟨ret_int (by rw [hq.out, List.take_of_length_le (by rw [HL.out]; exact Nat.le_refl _)]), rfl⟩
theorem RdP_lit (w : World) (ps : List Part) (t : TypeId) : RdP (w.alloc (.cells (ps.map Part.v).toArray t)) (some ⟨w.heap.size, 0, none⟩) ps := by
  refine .inr ⟨_, 0, rfl, fun i hi => ?_⟩
  rw [Nat.zero_add]
  have h := heap_alloc_last w (.cells (ps.map Part.v).toArray t)
  simp only [World.cell?, h]
  simp [hi]
/-- The sum of one part, of two: behind the slice that the call lays for them. -/
theorem sum_one (ad : Option Addr) (len cap : Nat) (l : List UInt8) (w : World) (hlen : l.length = len) (hm : len ≤ 9223372036854775807) (hr : RdB w ad l) (hT : Tabs w) (c b : Nat) (hb : w.heap.size = b) :
    Calls Tryd.prog 10 #[.slice (some ⟨b, 0, none⟩) 1 c] (w.alloc (.cells #[.slice ad len cap] 22)) fun e w' => e = .returned (.int .u32 ((sumB l : Nat) : Int)) ∧ w.alloc (.cells #[.slice ad len cap] 22) = w' := by
  subst hlen hb
  have hB : Below w.heap.size w (w.alloc (.cells #[.slice ad l.length cap] 22)) := (Below.refl _ _).alloc (Nat.le_refl _) _
  have := sum_any (some ⟨w.heap.size, 0, none⟩) 1 c [⟨ad, cap, l⟩] (w.alloc (.cells #[.slice ad l.length cap] 22)) rfl (by omega) (RdP_lit w [⟨ad, cap, l⟩] 22)
    (by intro p hp; rw [List.mem_singleton] at hp; subst hp; exact ⟨hr.below hB, hm⟩) (hT.below hB)
  rwa [show join [⟨ad, cap, l⟩] = l from by simp [join]] at this
theorem sum_two (ad bd : Option Addr) (len cap len2 cap2 : Nat) (l l2 : List UInt8) (w : World) (hlen : l.length = len) (hm : len ≤ 9223372036854775807) (hr : RdB w ad l) (hlen2 : l2.length = len2) (hm2 : len2 ≤ 9223372036854775807) (hr2 : RdB w bd l2) (hT : Tabs w) (c b : Nat) (hb : w.heap.size = b) :
    Calls Tryd.prog 10 #[.slice (some ⟨b, 0, none⟩) 2 c] (w.alloc (.cells #[.slice ad len cap, .slice bd len2 cap2] 22)) fun e w' => e = .returned (.int .u32 ((sumB (l ++ l2) : Nat) : Int)) ∧ w.alloc (.cells #[.slice ad len cap, .slice bd len2 cap2] 22) = w' := by
  subst hlen hlen2 hb
  have hB : Below w.heap.size w (w.alloc (.cells #[.slice ad l.length cap, .slice bd l2.length cap2] 22)) := (Below.refl _ _).alloc (Nat.le_refl _) _
  have := sum_any (some ⟨w.heap.size, 0, none⟩) 2 c [⟨ad, cap, l⟩, ⟨bd, cap2, l2⟩] (w.alloc (.cells #[.slice ad l.length cap, .slice bd l2.length cap2] 22)) rfl (by omega) (RdP_lit w [⟨ad, cap, l⟩, ⟨bd, cap2, l2⟩] 22)
    (by intro p hp; simp at hp; rcases hp with rfl | rfl; exact ⟨hr.below hB, hm⟩; exact ⟨hr2.below hB, hm2⟩) (hT.below hB)
  rwa [show join [⟨ad, cap, l⟩, ⟨bd, cap2, l2⟩] = l ++ l2 from by simp [join]] at this
theorem sum_none (w : World) (hT : Tabs w) (ad : Option Addr) (c : Nat) :
    Calls Tryd.prog 10 #[.slice ad 0 c] w fun e w' => e = .returned (.int .u32 0) ∧ w = w' :=
  sum_any ad 0 c [] w rfl (by omega) (.inl rfl) (by intro p hp; cases hp) hT
end Go.Proofs.YtgacljanapmnfaaDoor.Crc
