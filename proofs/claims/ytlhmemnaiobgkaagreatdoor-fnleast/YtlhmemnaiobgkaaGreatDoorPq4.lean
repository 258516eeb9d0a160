/- Texts in one: Draw, Plain, Plain2. -/
import Derived.Test.YtlhmemnaiobgkaaGreatDoorPq2
import Derived.Test.YtlhmemnaiobgkaaGreatDoorPq3
import Derived.Test.YtlhmemnaiobgkaaGreatDoorPq1
import Derived.Deep.RegionWith
import Derived.WalkKit
/- Contracts of the specification's draws: what is drawn is some number within its bounds, some bytes, some texts of a list; the cursor alone is written. -/
namespace Go.Proofs.YtlhmemnaiobgkaaGreatDoor.Draw
open Go.RowKit Go.Proofs.YtlhmemnaiobgkaaGreatDoor.Mem Go.Proofs.YtlhmemnaiobgkaaGreatDoor.Laws Go.Proofs.YtlhmemnaiobgkaaGreatDoor.Bytes
set_option linter.unusedVariables false

/-- A cursor at block g over the bytes that vb reads. -/
def Cur (w : World) (g : Nat) (vb : Value) (n : Nat) : Prop :=
  ∃ (i : Nat) (h : Int), w.heap[g]? = some (.cells #[vb, .int .i64 (i : Int), .int .i64 h] 94 (0, 0)) ∧ i ≤ n

theorem Apart.put {a w : World} {g : Nat} (h : Apart g (g + 1) a w) (j : Nat) (u : Value) : Apart g (g + 1) a (w.setCell ⟨g, j, none⟩ u) :=
  Apart.setCell (p := ⟨g, j, none⟩) h (Nat.le_refl g) (Nat.lt_succ_self g) u

theorem info9 : (Tryz.prog.info? 9).map (fun i => (i.zero, i.size, i.bytes)) = some (some (.string ⟨#[]⟩), 1, 16) := by kernel_rfl

theorem and255 (x : Int) : 0 ≤ bits .and .i64 x 255 ∧ bits .and .i64 x 255 ≤ 255 := by
  have h : ∀ a : BitVec 64, (a &&& (255#64)).toNat ≤ 255 := fun a => by rw [BitVec.toNat_and]; exact Nat.and_le_right
  have e : bits .and .i64 x 255 = IntKind.i64.wrap ((BitVec.ofInt 64 x &&& 255#64).toNat : Int) := rfl
  rw [e]
  have hb := h (BitVec.ofInt 64 x)
  rw [IntKind.wrap_i64]
  omega

set_option maxRecDepth 1000000 in
set_option maxHeartbeats 1000000 in
theorem byte_any (W0 w : World) (g : Nat) (vb : Value) (xs : List Int) (hs : Sl W0 vb (bs xs)) (hby : Byt xs) (hx : xs.length ≤ 140737488355328) (hB : Below W0.heap.size W0 w) (hg : W0.heap.size ≤ g) (hc : Cur w g vb xs.length) :
    Calls Tryz.prog 64 #[.pointer (some ⟨g, 0, none⟩)] w fun e w' => ∃ x : Int, e = .returned (.int .i64 x) ∧ 0 ≤ x ∧ x ≤ 255 ∧ Cur w' g vb xs.length ∧ Apart g (g + 1) w w' := by
  obtain ⟨i, h, hblk, hi⟩ := hc
  have hs' := hs.later hB
  obtain ⟨ao, cap, rfl, hcp, _, hr⟩ := hs'
  have c0 := cell_of_row w g 0 _ _ _ hblk
  have c1 := cell_of_row w g 1 _ _ _ hblk
  have c2 := cell_of_row w g 2 _ _ _ hblk
  have f1 := frozen_of_row w g 1 _ _ hblk
  have f2 := frozen_of_row w g 2 _ _ hblk
  rw [bs_len] at hr hcp c0 hblk
  rw [bs_len]
  simp at c0 c1 c2
  have hset : ∀ (h2 : Int) (k : Nat), (w.setCell ⟨g, 2, none⟩ (.int .i64 h2)).heap[g]? = some (.cells #[.slice ao xs.length cap, .int .i64 (i : Int), .int .i64 h2] 94 (0, 0)) := fun h2 _ => heap_setCell_same w g 2 _ _ _ hblk
  have HS : Hid (∀ (h2 : Int), (w.setCell ⟨g, 2, none⟩ (.int .i64 h2)).heap[g]? = some (.cells #[.slice ao xs.length cap, .int .i64 (i : Int), .int .i64 h2] 94 (0, 0))) := fun h2 => hset h2 0
  clear hset hblk
  by_cases hlt : i < xs.length
  · obtain ⟨b, off, c, rfl, hx0, hcell⟩ := Sl.byteAt hr rfl hlt
    have hcb := hby.at hx0
    have hbl : b < W0.heap.size := by
      obtain ⟨ao', cap', he, _, _, hr'⟩ := hs
      rw [bs_len] at he hr'
      simp only [Value.slice.injEq] at he
      obtain ⟨rfl, _, rfl⟩ := he
      obtain ⟨b', off', c', he', _, hcell'⟩ := Sl.byteAt hr' rfl hlt
      simp only [Option.some.injEq, Addr.mk.injEq, and_true] at he'
      obtain ⟨rfl, rfl⟩ := he'
      exact World.block_lt_of_cell? W0 ⟨b, off + i, none⟩ hcell'
    have hbg : ¬ b = g := by omega
    have hgb : ¬ g = b := by omega
    clear hx0 hr hs hby
    go_enter Tryz.func64, Tryz.ntmps64
    go_wp2
    generalize wrap64 (wrap64 (h * 6364136223846793005) + 1442695040888963407) = h2
    go_quiet (fail)
    go_wp2
    go_quiet (fail)
    go_wp2
    go_quiet (fail)
    go_wp2
    go_ret
    have h2b := HS.out h2
    refine ⟨_, rfl, (and255 _).1, (and255 _).2, ⟨i + 1, h2, heap_setCell_same _ g 1 _ _ _ h2b, by omega⟩, ?_⟩
    repeat (first | exact Apart.refl _ _ _ | refine Apart.quiet ?_ _ | refine Apart.put ?_ _ _)
  · clear hr hs hby
    go_enter Tryz.func64, Tryz.ntmps64
    go_wp2
    generalize wrap64 (wrap64 (h * 6364136223846793005) + 1442695040888963407) = h2
    go_quiet (fail)
    go_wp2
    go_quiet (fail)
    go_wp2
    go_ret
    have h2b := HS.out h2
    refine ⟨_, rfl, (and255 _).1, (and255 _).2, ⟨i, h2, h2b, hi⟩, ?_⟩
    repeat (first | exact Apart.refl _ _ _ | refine Apart.quiet ?_ _ | refine Apart.put ?_ _ _)

/-- What a draw leaves of the world: the cursor alone may have turned. -/
structure Drawn (W0 w : World) (g : Nat) (vb : Value) (xs : List Int) (w' : World) : Prop where
  cur : Cur w' g vb xs.length
  apart : Apart g (g + 1) w w'
  below : Below W0.heap.size W0 w'

theorem Drawn.mk' {W0 w w' : World} {g : Nat} {vb : Value} {xs : List Int} (hB : Below W0.heap.size W0 w) (hg : W0.heap.size ≤ g) (hc : Cur w' g vb xs.length) (ha : Apart g (g + 1) w w') : Drawn W0 w g vb xs w' :=
  ⟨hc, ha, hB.trans (ha.below hg hB.size)⟩

/-- The cursor, where a new block was laid. -/
theorem Cur.alloc {w : World} {g : Nat} {vb : Value} {n : Nat} (h : Cur w g vb n) (o : Obj) : Cur (w.alloc o) g vb n := by
  obtain ⟨i, x, hb, hi⟩ := h
  exact ⟨i, x, by rw [Below.heap_alloc _ _ _ (Array.getElem?_eq_some_iff.1 hb).1]; exact hb, hi⟩
theorem Cur.later {w w' : World} {g B : Nat} {vb : Value} {n : Nat} (h : Cur w g vb n) (hb : Below B w w') (hg : g < B) : Cur w' g vb n := by
  obtain ⟨i, x, hh, hi⟩ := h
  exact ⟨i, x, by rw [hb.block g hg]; exact hh, hi⟩
theorem Cur.lt {w : World} {g : Nat} {vb : Value} {n : Nat} (h : Cur w g vb n) : g < w.heap.size := by
  obtain ⟨i, x, hh, hi⟩ := h
  exact (Array.getElem?_eq_some_iff.1 hh).1

theorem byte_d (W0 w : World) (g : Nat) (vb : Value) (xs : List Int) (hs : Sl W0 vb (bs xs)) (hby : Byt xs) (hx : xs.length ≤ 140737488355328) (hB : Below W0.heap.size W0 w) (hg : W0.heap.size ≤ g) (hc : Cur w g vb xs.length) :
    Calls Tryz.prog 64 #[.pointer (some ⟨g, 0, none⟩)] w fun e w' => ∃ x : Int, e = .returned (.int .i64 x) ∧ 0 ≤ x ∧ x ≤ 255 ∧ Drawn W0 w g vb xs w' := by
  refine (byte_any W0 w g vb xs hs hby hx hB hg hc).mono ?_
  rintro e w' ⟨x, rfl, h0, h1, hcur, hap⟩
  exact ⟨x, rfl, h0, h1, Drawn.mk' hB hg hcur hap⟩

set_option maxRecDepth 1000000 in
set_option maxHeartbeats 1000000 in
theorem below_any (W0 w : World) (g : Nat) (vb : Value) (xs : List Int) (n : Int) (hn1 : 1 ≤ n) (hn2 : n ≤ 9223372036854775807) (hs : Sl W0 vb (bs xs)) (hby : Byt xs) (hx : xs.length ≤ 140737488355328) (hB : Below W0.heap.size W0 w) (hg : W0.heap.size ≤ g) (hc : Cur w g vb xs.length) :
    Calls Tryz.prog 36 #[.pointer (some ⟨g, 0, none⟩), .int .i64 n] w fun e w' => ∃ x : Int, e = .returned (.int .i64 x) ∧ 0 ≤ x ∧ x < n ∧ Drawn W0 w g vb xs w' := by
  by_cases hsm : n ≤ 256
  · go_enter Tryz.func36, Tryz.ntmps36
    go_wp2_with fail
    refine (byte_d W0 w g vb xs hs hby hx hB hg hc).mono ?_
    rintro e w1 ⟨x, rfl, h0, h1, hd⟩
    go_wp2
    go_ret
    exact ⟨_, rfl, Int.emod_nonneg _ (by omega), Int.emod_lt_of_pos _ (by omega), hd⟩
  · go_enter Tryz.func36, Tryz.ntmps36
    go_wp2_with fail
    refine (byte_d W0 w g vb xs hs hby hx hB hg hc).mono ?_
    rintro e w1 ⟨x, rfl, x0, x1, hd1⟩
    go_wp2_with fail
    refine (byte_d W0 w1 g vb xs hs hby hx hd1.below hg hd1.cur).mono ?_
    rintro e w2 ⟨y, rfl, y0, y1, hd2⟩
    go_wp2_with fail
    refine (byte_d W0 w2 g vb xs hs hby hx hd2.below hg hd2.cur).mono ?_
    rintro e w3 ⟨z, rfl, z0, z1, hd3⟩
    go_wp2
    go_ret
    exact ⟨_, rfl, Int.emod_nonneg _ (by omega), Int.emod_lt_of_pos _ (by omega), ⟨hd3.cur, Apart.trans hd1.apart (Apart.trans hd2.apart hd3.apart), hd3.below⟩⟩

/-- ints as cells -/
def is (xs : List Int) : List Value := xs.map (Value.int .i64)
theorem is_len (xs : List Int) : (is xs).length = xs.length := by simp [is]

set_option maxRecDepth 1000000 in
set_option maxHeartbeats 1000000 in
/-- l1Int: one of the list. The list lies apart from the cursor. -/
theorem int_any (W0 w : World) (g : Nat) (vb : Value) (xs : List Int) (gl : Nat) (li : List Int) (hl : w.heap[gl]? = some (.cells (is li).toArray 3 (0, 0))) (hne : gl ≠ g) (hli : 1 ≤ li.length) (hl2 : li.length ≤ 1000) (hs : Sl W0 vb (bs xs)) (hby : Byt xs) (hx : xs.length ≤ 140737488355328) (hB : Below W0.heap.size W0 w) (hg : W0.heap.size ≤ g) (hc : Cur w g vb xs.length) :
    Calls Tryz.prog 40 #[.pointer (some ⟨g, 0, none⟩), .slice (some ⟨gl, 0, none⟩) li.length li.length] w fun e w' => ∃ x : Int, e = .returned (.int .i64 x) ∧ x ∈ li ∧ Drawn W0 w g vb xs w' := by
  go_enter Tryz.func40, Tryz.ntmps40
  go_wp2_with fail
  refine (below_any W0 w g vb xs li.length (by omega) (by omega) hs hby hx hB hg hc).mono ?_
  rintro e w1 ⟨x, rfl, x0, x1, hd⟩
  obtain ⟨k, rfl⟩ := Int.eq_ofNat_of_zero_le x0
  have hk : k < li.length := by omega
  have hgl : gl < w.heap.size := (Array.getElem?_eq_some_iff.1 hl).1
  obtain ⟨y, hy⟩ : ∃ y, li[k]? = some y := ⟨li[k], by simp⟩
  have hcell : w1.cell? ⟨gl, k, none⟩ = some (.int .i64 y) := by
    rw [cell_of_row w1 gl k _ 3 (0, 0) (by rw [hd.apart.block gl hgl (by omega)]; exact hl)]
    simp [is, hy]
  have HY : Hid (li[k]? = some y) := hy
  clear hy hl
  go_wp2
  go_ret
  exact ⟨_, rfl, List.mem_of_getElem? HY.out, hd⟩

set_option maxRecDepth 1000000 in
set_option maxHeartbeats 1000000 in
/-- l1Str: one of the list. The list lies apart from the cursor. -/
theorem str_any (W0 w : World) (g : Nat) (vb : Value) (xs : List Int) (gl : Nat) (li : List ByteArray) (hl : w.heap[gl]? = some (.cells (ss li).toArray 9 (0, 0))) (hne : gl ≠ g) (hli : 1 ≤ li.length) (hl2 : li.length ≤ 1000) (hs : Sl W0 vb (bs xs)) (hby : Byt xs) (hx : xs.length ≤ 140737488355328) (hB : Below W0.heap.size W0 w) (hg : W0.heap.size ≤ g) (hc : Cur w g vb xs.length) :
    Calls Tryz.prog 88 #[.pointer (some ⟨g, 0, none⟩), .slice (some ⟨gl, 0, none⟩) li.length li.length] w fun e w' => ∃ x : ByteArray, e = .returned (.string x) ∧ x ∈ li ∧ Drawn W0 w g vb xs w' := by
  go_enter Tryz.func88, Tryz.ntmps88
  go_wp2_with fail
  refine (below_any W0 w g vb xs li.length (by omega) (by omega) hs hby hx hB hg hc).mono ?_
  rintro e w1 ⟨x, rfl, x0, x1, hd⟩
  obtain ⟨k, rfl⟩ := Int.eq_ofNat_of_zero_le x0
  have hk : k < li.length := by omega
  have hgl : gl < w.heap.size := (Array.getElem?_eq_some_iff.1 hl).1
  obtain ⟨y, hy⟩ : ∃ y, li[k]? = some y := ⟨li[k], by simp⟩
  have hcell : w1.cell? ⟨gl, k, none⟩ = some (.string y) := by
    rw [cell_of_row w1 gl k _ 9 (0, 0) (by rw [hd.apart.block gl hgl (by omega)]; exact hl)]
    simp [ss, hy]
  have HY : Hid (li[k]? = some y) := hy
  clear hy hl
  go_wp2
  go_ret
  exact ⟨_, rfl, List.mem_of_getElem? HY.out, hd⟩

theorem one_byte (x : Int) : ∀ u ∈ [Value.int .u8 x], u.oneCell' = true := by
  intro u hu
  rw [List.mem_singleton] at hu
  rw [hu]
  rfl

theorem one_str (s : ByteArray) : ∀ u ∈ [Value.string s], u.oneCell' = true := by
  intro u hu
  rw [List.mem_singleton] at hu
  rw [hu]
  rfl

theorem Own.emptyB (w : World) (lo : Nat) (h : lo ≤ w.heap.size) : Own (w.alloc (.cells #[] 5)) lo (w.alloc (.cells #[] 5)).heap.size 5 (.slice (some ⟨w.heap.size, 0, none⟩) 0 0) (bs []) :=
  Own.of (World.ownsRow_lit w #[] 0 h (Nat.zero_le _) rfl)

theorem Own.emptyS (w : World) (lo : Nat) (h : lo ≤ w.heap.size) : Own (w.alloc (.cells #[] 9)) lo (w.alloc (.cells #[] 9)).heap.size 9 (.slice (some ⟨w.heap.size, 0, none⟩) 0 0) (ss []) :=
  Own.of (World.ownsRow_lit w #[] 0 h (Nat.zero_le _) rfl)

/-- A draw, and behind it what lies from the start's end on. -/
theorem Drawn.on {W0 w w1 w' : World} {g : Nat} {vb : Value} {xs : List Int} (h : Drawn W0 w g vb xs w1) (hg : W0.heap.size ≤ g) (hgw : g < w.heap.size) (hb : Below w.heap.size w1 w') : Drawn W0 w g vb xs w' :=
  ⟨h.cur.later hb hgw, h.apart.on hb, h.below.trans (hb.mono (by omega))⟩
theorem Drawn.and {W0 w w1 w2 : World} {g : Nat} {vb : Value} {xs : List Int} (h : Drawn W0 w g vb xs w1) (k : Drawn W0 w1 g vb xs w2) : Drawn W0 w g vb xs w2 :=
  ⟨k.cur, h.apart.trans k.apart, k.below⟩
theorem Drawn.refl {W0 w : World} {g : Nat} {vb : Value} {xs : List Int} (hB : Below W0.heap.size W0 w) (hc : Cur w g vb xs.length) : Drawn W0 w g vb xs w :=
  ⟨hc, Apart.refl _ _ _, hB⟩
/-- What the call owns beside the cursor stays. -/
theorem Own.drawn {W0 w w' : World} {g lo hi : Nat} {vb : Value} {xs : List Int} {e : TypeId} {v : Value} {cs : List Value} (h : Own w lo hi e v cs) (hd : Drawn W0 w g vb xs w') (hgl : g < lo ∨ hi ≤ g) (hh : hi ≤ w.heap.size) : Own w' lo hi e v cs :=
  h.apart hd.apart (by omega) hh

theorem lit_block (w : World) (cs : Array Value) (t : TypeId) : (w.alloc (.cells cs t)).heap[w.heap.size]? = some (.cells cs t (0, 0)) := heap_alloc_new w _

theorem mask30 (x : Int) : 0 ≤ bits .and .i64 x 1073741823 ∧ bits .and .i64 x 1073741823 ≤ 1073741823 := by
  have h : ∀ a : BitVec 64, (a &&& (1073741823#64)).toNat ≤ 1073741823 := fun a => by rw [BitVec.toNat_and]; exact Nat.and_le_right
  have e : bits .and .i64 x 1073741823 = IntKind.i64.wrap ((BitVec.ofInt 64 x &&& 1073741823#64).toNat : Int) := rfl
  rw [e]
  have hb := h (BitVec.ofInt 64 x)
  rw [IntKind.wrap_i64]
  omega

set_option maxRecDepth 1000000 in
set_option maxHeartbeats 1000000 in
/-- l1New: a cursor in a new block. -/
theorem new_any (w : World) (vb : Value) (xs : List Int) (hs : Sl w vb (bs xs)) (hby : Byt xs) (hx : xs.length ≤ 140737488355328) :
    Calls Tryz.prog 33 #[vb] w fun e w' => e = .returned (.pointer (some ⟨w.heap.size, 0, none⟩)) ∧ Drawn w w w.heap.size vb xs w' := by
  obtain ⟨ao, cap, rfl, hc1, _, hr1⟩ := hs
  rw [bs_len] at hr1 hc1
  rw [bs_len]
  go_enter Tryz.func33, Tryz.ntmps33
  go_wp2
  go_loop [3, 4] (fun hh i => ∃ (k : Nat) (h : Int), k ≤ xs.length ∧ i = .int .i64 k ∧ hh = .int .i64 h ∧ 0 ≤ h ∧ h ≤ 1000000000000000) (fun _ i => xs.length - (intOf i).toNat)
  case atStart => exact ⟨0, 372372 + (xs.length : Int), Nat.zero_le _, rfl, rfl, by omega, by omega⟩
  case round =>
    obtain ⟨k, h, hk, rfl, rfl, h0, h1⟩ := hrel
    by_cases hlt : k < xs.length
    · have hd1 : decide ((k : Int) < (xs.length : Int)) = true := by simp; omega
      by_cases h4 : (k : Int) < 4000
      · have hd2 : decide ((k : Int) < 4000) = true := by simpa using h4
        obtain ⟨b, off, c, rfl, hx0, hcell⟩ := Sl.byteAt hr1 rfl hlt
        have hcb := hby.at hx0
        clear hx0 hr1 hby
        go_wp2
        go_round
        case rel => exact ⟨k + 1, _, by omega, by go_num, rfl, (mask30 _).1, by have := (mask30 (h * 137 + c + 11)).2; omega⟩
        case measure => simp [intOf]; omega
      · have hd2 : decide ((k : Int) < 4000) = false := by simpa using h4
        clear hr1
        go_wp2
        go_ret
        exact ⟨rfl, ⟨⟨0, h, lit_block _ _ _, Nat.zero_le _⟩, (Apart.refl _ _ _).on ((Below.refl _ _).alloc (Nat.le_refl _) _), (Below.refl _ _).alloc (Nat.le_refl _) _⟩⟩
    · have hd1 : decide ((k : Int) < (xs.length : Int)) = false := by simp; omega
      clear hr1
      go_wp2
      go_ret
      exact ⟨rfl, ⟨⟨0, h, lit_block _ _ _, Nat.zero_le _⟩, (Apart.refl _ _ _).on ((Below.refl _ _).alloc (Nat.le_refl _) _), (Below.refl _ _).alloc (Nat.le_refl _) _⟩⟩

/-- the texts that l1Texts draws of -/
def five : List ByteArray := [⟨#[]⟩, ⟨#[97]⟩, ⟨#[98, 99]⟩, ⟨#[0, 255]⟩, ⟨#[115, 111, 109, 101, 32, 109, 111, 114, 101, 32, 98, 121, 116, 101, 115]⟩]
theorem five_size : ∀ s ∈ five, s.size ≤ 15 := by decide

theorem big_no (w : World) (ao : Option Addr) (n cap : Nat) (h : ¬ 1048576 < n) : Calls Tryz.prog 7 #[.slice ao n cap] w fun e w' => e = .returned (.bool false) ∧ w = w' := by
  have hd : decide ((1048576 : Int) < (n : Int)) = false := by simp; omega
  go_enter Tryz.func7, Tryz.ntmps7
  go_wp2
  go_ret
  exact ⟨rfl, rfl⟩

theorem big_yes (w : World) (ao : Option Addr) (n cap : Nat) (h : 1048576 < n) : Calls Tryz.prog 7 #[.slice ao n cap] w fun e w' => e = .returned (.bool true) ∧ w = w' := by
  have hd : decide ((1048576 : Int) < (n : Int)) = true := by simp; omega
  go_enter Tryz.func7, Tryz.ntmps7
  go_wp2
  go_ret
  exact ⟨rfl, rfl⟩

end Go.Proofs.YtlhmemnaiobgkaaGreatDoor.Draw

/- Plain lists and numbers, no program is named: numbers as groups of seven bits ('enc'), how they are read back ('dec', 'getNum'), and what the bit operations of the specification come to. -/
namespace Go.Proofs.YtlhmemnaiobgkaaGreatDoor.Plain

/-- n, or the nearer of 0 and 1000000000. -/
def clampN (n : Int) : Int := if n < 0 then 0 else if 1000000000 < n then 1000000000 else n

theorem clampN_bd (n : Int) : 0 ≤ clampN n ∧ clampN n ≤ 1000000000 := by unfold clampN; split <;> (try split) <;> omega

/-- Groups of seven bits, the lowest first, 128 added but for the last; at most f groups more. -/
def encF : Nat → Nat → List Int
  | 0, n => [(n : Int)]
  | f + 1, n => if n < 128 then [(n : Int)] else ((n % 128 + 128 : Nat) : Int) :: encF f (n / 128)
def enc (n : Nat) : List Int := encF n n

theorem encF_any (f : Nat) : ∀ g n, n ≤ f → n ≤ g → encF f n = encF g n := by
  induction f with
  | zero =>
    intro g n h1 h2
    cases g with
    | zero => rfl
    | succ g => rw [encF, encF, if_pos (by omega)]
  | succ f ih =>
    intro g n h1 h2
    cases g with
    | zero => rw [encF, encF, if_pos (by omega)]
    | succ g =>
      rw [encF, encF]
      split
      · rfl
      · rw [ih g (n / 128) (by omega) (by omega)]
theorem enc_small {n : Nat} (h : n < 128) : enc n = [(n : Int)] := by
  unfold enc
  cases n with
  | zero => rfl
  | succ m => rw [encF, if_pos h]
theorem enc_step {n : Nat} (h : ¬ n < 128) : enc n = ((n % 128 + 128 : Nat) : Int) :: enc (n / 128) := by
  unfold enc
  obtain ⟨m, rfl⟩ : ∃ m, n = m + 1 := ⟨n - 1, by omega⟩
  rw [encF, if_neg h, encF_any m ((m + 1) / 128) ((m + 1) / 128) (by omega) (by omega)]

theorem enc_byteF (f : Nat) : ∀ n, n ≤ f → ∀ x ∈ enc n, 0 ≤ x ∧ x ≤ 255 := by
  induction f with
  | zero => intro n hn; rw [enc_small (by omega)]; simp; omega
  | succ f ih =>
    intro n hn
    by_cases h : n < 128
    · rw [enc_small h]; simp; omega
    · rw [enc_step h]
      intro x hx
      rcases List.mem_cons.1 hx with rfl | hx
      · omega
      · exact ih (n / 128) (by omega) x hx
theorem enc_byte (n : Nat) : ∀ x ∈ enc n, 0 ≤ x ∧ x ≤ 255 := enc_byteF n n (Nat.le_refl _)

theorem enc_len (n : Nat) : 1 ≤ (enc n).length := by
  by_cases h : n < 128
  · rw [enc_small h]; simp
  · rw [enc_step h]; simp
theorem enc_len5 (n : Nat) (h : n ≤ 1000000000) : (enc n).length ≤ 5 := by
  have s1 : ∀ n, n < 128 → (enc n).length = 1 := fun n h => by rw [enc_small h]; rfl
  have up : ∀ m c : Nat, (∀ k, k < m → (enc k).length ≤ c) → ∀ k, k < m * 128 → (enc k).length ≤ c + 1 := by
    intro m c hc k hk
    by_cases h1 : k < 128
    · rw [s1 k h1]; omega
    · rw [enc_step h1]; have := hc (k / 128) (by omega); simp; omega
  have a1 : ∀ k, k < 128 → (enc k).length ≤ 1 := fun k hk => by rw [s1 k hk]; omega
  have a2 := up _ _ a1
  have a3 := up _ _ a2
  have a4 := up _ _ a3
  have a5 := up _ _ a4
  exact a5 n (by omega)

/-- What is read from a list of bytes: k groups are behind, they came to N, the next one counts W. -/
def dec (k : Nat) (N W : Int) : List Int → Option (Int × Nat)
  | [] => none
  | c :: r => if k = 5 then none else if 128 ≤ c then dec (k + 1) (N + c % 128 * W) (W * 128) r
      else if 1000000000 < N + c % 128 * W ∨ (0 < k ∧ c % 128 = 0) then none else some (N + c % 128 * W, k + 1)

/-- The number at a place, the place behind, whether it is there. -/
def getNum (xs : List Int) (at_ : Int) : Int × Int × Bool :=
  if 0 ≤ at_ ∧ at_ < xs.length then match dec 0 0 1 (xs.drop at_.toNat) with
    | some (n, k) => (n, at_ + k, true)
    | none => (0, 0, false)
  else (0, 0, false)

theorem wraps_i64 (n : Int) (h0 : 0 ≤ n) (h1 : n < 2 ^ 62) : IntKind.i64.wrap n = n := by rw [IntKind.wrap_i64]; omega

theorem and127 {n : Int} (h0 : 0 ≤ n) (h1 : n ≤ 1000000000) : bits .and .i64 n 127 = n % 128 := bits_mask .i64 62 (by decide) wraps_i64 7 (by decide) n h0 (by omega)
theorem or128 {n : Int} (h0 : 0 ≤ n) (h1 : n < 128) : bits .or .i64 n 128 = n + 128 := by
  obtain ⟨a, rfl⟩ := Int.eq_ofNat_of_zero_le h0
  have ha : a < 2 ^ 7 := by omega
  have h := (bits_nat .i64 62 (by decide) wraps_i64 a 128 (by omega) (by decide)).2
  have h2 := Nat.two_pow_add_eq_or_of_lt ha 1
  have e : (128 : Int) = ((128 : Nat) : Int) := rfl
  rw [e, h, Nat.or_comm]
  have h3 : (128 : Nat) ||| a = 128 + a := by simpa using h2.symm
  rw [h3]; omega
/-- A number below 128^k, and groups above it, by 'or'. -/
theorem or_join {N c : Int} {k : Nat} (hk : k < 5) (h0 : 0 ≤ N) (h1 : N < 128 ^ k) (hc0 : 0 ≤ c) (hc1 : c < 128) : bits .or .i64 N (c * 2 ^ (7 * k)) = N + c * 128 ^ k := by
  obtain ⟨a, rfl⟩ := Int.eq_ofNat_of_zero_le h0
  obtain ⟨b, rfl⟩ := Int.eq_ofNat_of_zero_le hc0
  have e : (128 : Int) ^ k = 2 ^ (7 * k) := by rw [Int.pow_mul]; rfl
  have en : (128 : Nat) ^ k = 2 ^ (7 * k) := by rw [Nat.pow_mul]
  have hp : (2 : Nat) ^ (7 * k) ≤ 2 ^ 28 := Nat.pow_le_pow_right (by decide) (by omega)
  have ha : a < 2 ^ (7 * k) := by rw [e] at h1; exact_mod_cast h1
  have hb : b < 128 := by omega
  have hx : b * 2 ^ (7 * k) < 2 ^ 35 := by
    have h3 : b * 2 ^ (7 * k) ≤ 127 * 2 ^ 28 := Nat.mul_le_mul (by omega) hp
    omega
  have h := (bits_nat .i64 62 (by decide) wraps_i64 a (b * 2 ^ (7 * k)) (by omega) (by omega)).2
  have hcast : ((b : Int) * 2 ^ (7 * k)) = ((b * 2 ^ (7 * k) : Nat) : Int) := by push_cast; rfl
  rw [e]
  rw [hcast, h, Nat.or_comm, Nat.mul_comm b, ← Nat.two_pow_add_eq_or_of_lt ha b]
  push_cast; omega

end Go.Proofs.YtlhmemnaiobgkaaGreatDoor.Plain

/- Plain lists and numbers: texts behind their lengths, and what is known of a number that was read. -/
namespace Go.Proofs.YtlhmemnaiobgkaaGreatDoor.Plain
open Go.Proofs.YtlhmemnaiobgkaaGreatDoor.Mem

theorem dec_bd (l : List Int) : ∀ (k : Nat) (N W : Int) (n : Int) (j : Nat), 0 ≤ N → 0 ≤ W → dec k N W l = some (n, j) → 0 ≤ n ∧ n ≤ 1000000000 ∧ k < j ∧ j ≤ k + l.length := by
  induction l with
  | nil => intro k N W n j _ _ h; simp [dec] at h
  | cons c r ih =>
    intro k N W n j hN hW h
    have hp : 0 ≤ c % 128 * W := Int.mul_nonneg (by omega) hW
    rw [dec] at h
    split at h
    · simp at h
    · split at h
      · have := ih (k + 1) _ _ n j (by omega) (by omega) h
        simp only [List.length_cons]
        omega
      · split at h
        · simp at h
        · simp only [Option.some.injEq, Prod.mk.injEq] at h
          obtain ⟨rfl, rfl⟩ := h
          simp only [List.length_cons]
          omega

theorem getNum_bd {xs : List Int} {at_ n p : Int} (h : getNum xs at_ = (n, p, true)) : 0 ≤ n ∧ n ≤ 1000000000 ∧ 0 < p ∧ p ≤ xs.length ∧ 0 ≤ at_ ∧ at_ < p := by
  unfold getNum at h
  split at h
  · rename_i hr
    split at h
    · rename_i n' k hd
      simp only [Prod.mk.injEq, and_true] at h
      obtain ⟨rfl, rfl⟩ := h
      have := dec_bd _ 0 0 1 _ _ (by omega) (by omega) hd
      have hl : (xs.drop at_.toNat).length = xs.length - at_.toNat := List.length_drop
      omega
    · simp at h
  · simp at h

/-- bytes as a text -/
def u8s (xs : List Int) : List UInt8 := xs.map fun x => UInt8.ofNat x.toNat
def txt (xs : List Int) : ByteArray := ⟨(u8s xs).toArray⟩
theorem u8s_len (xs : List Int) : (u8s xs).length = xs.length := by simp [u8s]
theorem u8_back {x : Int} (h : 0 ≤ x ∧ x ≤ 255) : ((UInt8.ofNat x.toNat).toNat : Int) = x := by
  rw [UInt8.toNat_ofNat']
  omega

/-- The text at a place, the place behind, whether it is there. -/
def getText (xs : List Int) (at_ : Int) : ByteArray × Int × Bool :=
  if (getNum xs at_).2.2 = true ∧ (getNum xs at_).1 ≤ xs.length - (getNum xs at_).2.1 then
    (txt ((xs.drop (getNum xs at_).2.1.toNat).take (getNum xs at_).1.toNat), (getNum xs at_).2.1 + (getNum xs at_).1, true)
  else (⟨#[]⟩, 0, false)

theorem getText_no {xs : List Int} {at_ n p : Int} {ok : Bool} (h : getNum xs at_ = (n, p, ok)) (hb : ok = false ∨ (xs.length : Int) - p < n) : getText xs at_ = (⟨#[]⟩, 0, false) := by
  unfold getText
  rw [h, if_neg]
  rintro ⟨h1, h2⟩
  simp only at h1 h2
  rcases hb with hb | hb
  · rw [hb] at h1; simp at h1
  · omega
theorem getText_yes {xs : List Int} {at_ : Int} {n p : Nat} (h : getNum xs at_ = ((n : Int), (p : Int), true)) (hb : (n : Int) ≤ xs.length - (p : Int)) : getText xs at_ = (txt ((xs.drop p).take n), (p : Int) + (n : Int), true) := by
  unfold getText
  rw [h, if_pos ⟨rfl, hb⟩]
  rfl

theorem getText_bd {xs : List Int} {at_ p : Int} {s : ByteArray} (h : getText xs at_ = (s, p, true)) : 0 < p ∧ p ≤ xs.length ∧ s.size ≤ xs.length ∧ 0 ≤ at_ ∧ at_ < p := by
  unfold getText at h
  split at h
  · rename_i hc
    obtain ⟨n, q, ok, hg⟩ : ∃ n q ok, getNum xs at_ = (n, q, ok) := ⟨_, _, _, rfl⟩
    rw [hg] at h hc
    simp only at h hc
    obtain ⟨rfl, hc2⟩ := hc
    have hb := getNum_bd hg
    simp only [Prod.mk.injEq, and_true] at h
    obtain ⟨rfl, rfl⟩ := h
    refine ⟨by omega, by omega, ?_, by omega, by omega⟩
    show (txt _).data.size ≤ _
    simp [txt, u8s]
    omega
  · simp at h

/-- n texts, one behind the other, from a place on; and the place behind. -/
def rd (xs : List Int) : Nat → Int → Option (List ByteArray × Int)
  | 0, p => some ([], p)
  | n + 1, p => if (getText xs p).2.2 = true then (rd xs n (getText xs p).2.1).map fun r => ((getText xs p).1 :: r.1, r.2) else none

theorem rd_no {xs : List Int} {n : Nat} {p q : Int} {s : ByteArray} (h : getText xs p = (s, q, false)) : rd xs (n + 1) p = none := by
  rw [rd, h]; rfl
theorem rd_yes {xs : List Int} {n : Nat} {p q : Int} {s : ByteArray} (h : getText xs p = (s, q, true)) : rd xs (n + 1) p = (rd xs n q).map fun r => (s :: r.1, r.2) := by
  rw [rd, h]; rfl

/-- The texts at a place (at most 200), the place behind, whether they are there. -/
def getTexts (xs : List Int) (at_ : Int) : List ByteArray × Int × Bool :=
  if (getNum xs at_).2.2 = true ∧ (getNum xs at_).1 ≤ 200 then
    match rd xs (getNum xs at_).1.toNat (getNum xs at_).2.1 with
    | some (l, q) => (l, q, true)
    | none => ([], 0, false)
  else ([], 0, false)

theorem getTexts_no {xs : List Int} {at_ n p : Int} {ok : Bool} (h : getNum xs at_ = (n, p, ok)) (hb : ok = false ∨ 200 < n) : getTexts xs at_ = ([], 0, false) := by
  unfold getTexts
  rw [h, if_neg]
  rintro ⟨h1, h2⟩
  simp only at h1 h2
  rcases hb with hb | hb
  · rw [hb] at h1; simp at h1
  · omega
theorem getTexts_none {xs : List Int} {at_ p : Int} {n : Nat} (h : getNum xs at_ = ((n : Int), p, true)) (hn : n ≤ 200) (hr : rd xs n p = none) : getTexts xs at_ = ([], 0, false) := by
  unfold getTexts
  rw [h, if_pos ⟨rfl, by simp only; omega⟩]
  simp [hr]
theorem getTexts_some {xs : List Int} {at_ p q : Int} {n : Nat} {l : List ByteArray} (h : getNum xs at_ = ((n : Int), p, true)) (hn : n ≤ 200) (hr : rd xs n p = some (l, q)) : getTexts xs at_ = (l, q, true) := by
  unfold getTexts
  rw [h, if_pos ⟨rfl, by simp only; omega⟩]
  simp [hr]

theorem rd_len (xs : List Int) (n : Nat) : ∀ (p q : Int) (l : List ByteArray), rd xs n p = some (l, q) → l.length = n := by
  induction n with
  | zero => intro p q l h; simp [rd] at h; rw [h.1]; rfl
  | succ n ih =>
    intro p q l h
    rw [rd] at h
    split at h
    · rw [Option.map_eq_some_iff] at h
      obtain ⟨⟨l2, q2⟩, h1, h2⟩ := h
      simp only [Prod.mk.injEq] at h2
      rw [← h2.1, List.length_cons, ih _ _ _ h1]
    · simp at h
theorem getTexts_len (xs : List Int) (at_ : Int) : (getTexts xs at_).1.length ≤ 200 := by
  unfold getTexts
  split
  · rename_i hc
    split
    · rename_i l q hr
      have := rd_len xs _ _ _ _ hr
      simp only
      omega
    · simp
  · simp

end Go.Proofs.YtlhmemnaiobgkaaGreatDoor.Plain
