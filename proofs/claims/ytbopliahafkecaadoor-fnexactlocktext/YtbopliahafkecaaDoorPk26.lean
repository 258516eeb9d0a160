/- Texts in one: Cln, HfA, ShaA, OpenH, RowSl. -/
import Derived.Test.YtbopliahafkecaaDoorPk18
import Derived.Test.YtbopliahafkecaaDoorPk6
import Derived.Test.YtbopliahafkecaaDoorPk20
import Derived.Test.YtbopliahafkecaaDoorPk7
import Derived.Test.YtbopliahafkecaaDoorPk21
import Derived.Test.YtbopliahafkecaaDoorPk19
import Derived.Test.YtbopliahafkecaaDoorProg
import Derived.Test.YtbopliahafkecaaDoorPk1
import Derived.WalkKit
import Derived.Lib.Strings
import Derived.Lib.Walk
import Derived.Lib.BufferWrite
import Derived.Lib.UnsafeStr
import Derived.Lib.Hide
import Derived.Laws.MakeOwn
import Derived.Laws.CopyOwn
import Derived.Laws.OwnMore
import Derived.BigQuiet
import Derived.ChangeSame
import Derived.OpenShut
/- The library's strings.Clone: a copy of a text. -/
namespace Go.Proofs.YtbopliahafkecaaDoor.Cln
open Go.RowKit Go.Proofs.YtbopliahafkecaaDoor.Mem Go.Proofs.YtbopliahafkecaaDoor.Laws Go.Proofs.YtbopliahafkecaaDoor.Bytes Go.Proofs.YtbopliahafkecaaDoor.Sha
set_option linter.unusedVariables false
set_option linter.unusedSimpArgs false

end Go.Proofs.YtbopliahafkecaaDoor.Cln

/- Chapter 10, the landed code: whether a head is right; how two heads stand to each other; a copy of a head. -/
namespace Go.Proofs.YtbopliahafkecaaDoor.He
open Go.RowKit Go.Proofs.YtbopliahafkecaaDoor.Mem Go.Proofs.YtbopliahafkecaaDoor.Laws Go.Proofs.YtbopliahafkecaaDoor.Bytes Go.Proofs.YtbopliahafkecaaDoor.Sha Go.Proofs.YtbopliahafkecaaDoor.Tr
set_option linter.unusedVariables false
set_option linter.unusedSimpArgs false

set_option maxRecDepth 1000000 in
set_option maxHeartbeats 1000000 in
theorem ok_impl (w : World) (h : Hd) (hz : h.r.size ≤ 1000000000000) : Calls Tryd.prog 18 #[.agg #[.int .i64 h.n, .string h.r]] w fun e w' => e = .returned (.bool (okH h)) ∧ Below w.heap.size w w' := by
  have HB : Hid (Below w.heap.size w (w.alloc (.cells #[.int .i64 h.n, .string h.r] 28))) := (Below.refl _ _).alloc (Nat.le_refl _) _
  by_cases h0 : 0 ≤ h.n
  · by_cases h2 : h.n ≤ 200
    · obtain ⟨t, ht⟩ : ∃ t, ((h.r.size : Int) == 32) = t := ⟨_, rfl⟩
      have HN : Hid (okH h = t) := by
        show _ = _
        rw [← ht]
        unfold okH
        by_cases h32 : h.r.size = 32
        · rw [decide_eq_true ⟨⟨h0, h2⟩, h32⟩, h32]; rfl
        · rw [decide_eq_false (fun c => h32 c.2)]
          exact (beq_eq_false_iff_ne.2 (by omega)).symm
      go_enter Tryd.func18, Tryd.ntmps18
      go_wp2
      go_ret
      exact ⟨by rw [HN.out]; rfl, HB.out⟩
    · have HN : Hid (okH h = false) := by show _ = _; unfold okH; rw [decide_eq_false (fun c => h2 c.1.2)]
      go_enter Tryd.func18, Tryd.ntmps18
      go_wp2
      go_ret
      exact ⟨by rw [HN.out]; rfl, HB.out⟩
  · have HN : Hid (okH h = false) := by show _ = _; unfold okH; rw [decide_eq_false (fun c => h0 c.1.1)]
    go_enter Tryd.func18, Tryd.ntmps18
    go_wp2
    go_ret
    exact ⟨by rw [HN.out]; rfl, HB.out⟩

/-- how two heads stand to each other: 1 the same, 2 of one size, 0 else -/
def pk (a b : Hd) : Int := if eqH a b = true then 1 else if a.n = b.n then 2 else 0

end Go.Proofs.YtbopliahafkecaaDoor.He

/- Contracts of the program's Padded, HexOf and UnHex: the same plain functions as the specification's. -/
namespace Go.Proofs.YtbopliahafkecaaDoor.Sha
open Go.RowKit Go.Proofs.YtbopliahafkecaaDoor.Mem Go.Proofs.YtbopliahafkecaaDoor.Laws Go.Proofs.YtbopliahafkecaaDoor.Bytes
set_option linter.unusedVariables false
set_option linter.unusedSimpArgs false

theorem set_mid {α : Type} (A : List α) (k : Nat) (z c : α) (B : List α) (p : Nat) (hp : p = A.length + k) : (A ++ List.replicate (k + 1) z ++ B).set p c = A ++ List.replicate k z ++ (c :: B) := by
  subst hp
  rw [List.append_assoc, List.set_append_right _ _ (by omega), Nat.add_sub_cancel_left, List.replicate_succ', List.append_assoc, List.set_append_right _ _ (by simp)]
  simp

theorem drop_be8 (n t : Nat) (ht : t < 8) : (be8 n).drop (8 - (t + 1)) = ((n : Int) / 2 ^ (8 * t) % 256) :: (be8 n).drop (8 - t) := by
  have h := be8_get n (8 - (t + 1)) (by omega)
  obtain ⟨h1, h2⟩ := List.getElem?_eq_some_iff.1 h
  rw [List.drop_eq_getElem_cons h1, h2, show 56 - 8 * (8 - (t + 1)) = 8 * t by omega, show 8 - (t + 1) + 1 = 8 - t by omega]

set_option maxRecDepth 1000000 in
set_option maxHeartbeats 2000000 in
theorem hex_impl (w : World) (s : ByteArray) (hs : s.size ≤ 10000000000000) :
    Calls Tryd.prog 21 #[.string s] w fun e w' => e = .returned (.string (Plain.txt (hexs (sb s)))) ∧ Below w.heap.size w w' := by
  obtain ⟨i0, hi, hz0, hz1, hz2⟩ := info_parts info5
  obtain ⟨N, hN⟩ : ∃ N : Nat, 2 * (s.size : Int) = (N : Int) := ⟨2 * s.size, by omega⟩
  have hNb : N ≤ 20000000000000 := by omega
  go_enter Tryd.func21, Tryd.ntmps21
  go_wp2_with (first | (at_make; refine wpList_make_own _ rfl _ _ 58 rfl w.heap.size 5 i0 (.int .u8 0) 1 Tryd.underlying58 hi hz0 hz1 _ _ _ N rfl rfl rfl (by rw [hz2]; omega) (by unfold maxLen; omega) (Nat.le_refl _) ?_))
  intro w1 hown hgrow
  have hb0 : Below w.heap.size w w1 := (Below.refl _ _).grown hgrow (Nat.le_refl _) (by simp)
  have ho0 : Own w1 w.heap.size w1.heap.size 5 (.slice (some ⟨w.heap.size, 0, none⟩) 0 N) (bs []) := Own.of hown
  clear hown hgrow
  go_wp2
  go_loopw [3, 11] (fun b i wr => ∃ k : Nat, k ≤ s.size ∧ i = .int .i64 k ∧ Own wr w.heap.size wr.heap.size 5 b (bs (hexs ((sb s).take k))) ∧ Below w.heap.size w wr) (fun _ i _ => s.size - (intOf i).toNat)
  case atStart => exact ⟨0, Nat.zero_le _, rfl, ho0, hb0⟩
  case round =>
    obtain ⟨k, hk, rfl, ho, hb⟩ := hrel
    have hsz := hb.size
    clear ho0 hb0
    by_cases hlt : k < s.size
    · have hlt' : (k : Int) < (s.size : Int) := by omega
      have hg0 := sb_get s k hlt
      have hcb := (sb_byt s).at hg0
      have b1 : (0 : Int) ≤ (s[k].toNat : Int) / 16 := by omega
      have b2 : (s[k].toNat : Int) / 16 < 16 := by omega
      have b3 : (0 : Int) ≤ (s[k].toNat : Int) % 16 := by omega
      have b4 : (s[k].toNat : Int) % 16 < 16 := by omega
      have hw1 : IntKind.u8.wrap ((s[k].toNat : Int) / 16) = (s[k].toNat : Int) / 16 := by rw [IntKind.wrap_u8]; omega
      have hw2 : ((s[k].toNat : Int)).tmod 16 = (s[k].toNat : Int) % 16 := Int.tmod_eq_emod_of_nonneg hcb.1
      have HG : Hid ((sb s)[k]? = some (s[k].toNat : Int)) := hg0
      have hl : (bs (hexs ((sb s).take k))).length ≤ 2 * s.size := by rw [bs_len, hexs_len]; simp; omega
      have c2 : ∀ a b : Int, (bs (hexs ((sb s).take k))).length + (bs [a, b]).length ≤ maxLen := fun a b => by simp only [bs_len, List.length_cons, List.length_nil] at *; unfold maxLen; omega
      have c3 : ∀ a b : Int, ((bs (hexs ((sb s).take k))).length + (bs [a, b]).length) * 1 ≤ 140737488355328 := fun a b => by simp only [bs_len, List.length_cons, List.length_nil] at *; omega
      have c4 : ∀ o, w.heap.size ≤ (wr.drew.alloc o).heap.size := fun o => by simp; omega
      have ho' : ∀ o, Own (wr.drew.alloc o) w.heap.size (wr.drew.alloc o).heap.size 5 _ (bs (hexs ((sb s).take k))) := fun o => Own.alloc (w := wr.drew) ho o
      clear hg0 hl
      go_wp2
      go_region_law (first | (refine step_app rfl (.tmp 14) (.tmp 25) 58 rfl 5 i0 (.int .u8 0) 1 Tryd.underlying58 hi hz0 hz1 hz2 rfl w.heap.size _ _ rfl (ho' _) _ rfl _ (Sl.two wr.drew _ _ _) (bs_one _) (c2 _ _) (c3 _ _) (c4 _) ?_; intro v3 w3 ho3 hb3))
      all_goals
        have hb4 : Below w.heap.size w w3 := (Below.alloc (w := wr.drew) (Below.drew hb) hsz _).trans hb3
        have ho4 : Own w3 w.heap.size w3.heap.size 5 v3 (bs (hexs ((sb s).take (k + 1)))) := by
          rw [take_snoc HG.out, hexs_app, hexs_one, bs_app, ← lit_get _ b1 b2 (by show _ < 16; omega), ← lit_get _ b3 b4 (by show _ < 16; omega)]
          exact ho3
        clear ho3 hb3 ho' c2 c3 c4 hw1 hw2
        go_wp2
        go_roundw
        case rel => exact ⟨k + 1, by omega, by go_num, ho4, hb4⟩
        case measure => simp [intOf]; omega
    · rw [List.take_of_length_le (by rw [sb_len]; omega)] at ho
      have hconv := conv_sl ho.sl (hexs_byt _ (sb_byt s))
      go_wp2
      go_ret
      exact ⟨rfl, hb⟩

theorem quiet_eq {P : Program} {f : FuncId} {args : Array Value} {w : World} {n : Nat} {v : Value}
    (h : Calls P f args (w.drewN n) fun e w' => e = .returned v ∧ w.drewN n = w') : Calls P f args (w.drewN n) fun e w'' => e = .returned v ∧ ∃ m, w'' = w.drewN m :=
  h.mono fun _ _ ⟨he, hm⟩ => ⟨he, n, hm.symm⟩

theorem unhex_odd_n (n : Nat) : ∀ l : List Int, l.length ≤ n → l.length % 2 = 1 → unhex l = none := by
  induction n with
  | zero => intro l h1 h2; omega
  | succ n ih =>
    intro l h1 h2
    match l, h1, h2 with
    | [], _, h2 => simp at h2
    | [_], _, _ => rfl
    | a :: b :: r, h1, h2 =>
      simp only [List.length_cons] at h1 h2
      have hr := ih r (by omega) (by omega)
      by_cases hb : undig a < 0 ∨ undig b < 0
      · exact unhex_bad hb
      · rw [unhex_good hb, hr]; rfl

theorem unhex_odd (l : List Int) (h : l.length % 2 = 1) : unhex l = none := unhex_odd_n _ l (Nat.le_refl _) h

end Go.Proofs.YtbopliahafkecaaDoor.Sha

/- What came in, read as heads. -/
namespace Go.Proofs.YtbopliahafkecaaDoor.Open
open Go.RowKit Go.ChangeShapes Go.WideShapes Go.ChangeAt Go.Deep Go.Joins Go.Proofs.YtbopliahafkecaaDoor.Mem Go.Proofs.YtbopliahafkecaaDoor.He
set_option linter.unusedVariables false
set_option linter.unusedSimpArgs false

/-- a head whose number and text are such as Go can hold -/
def Okh (h : Hd) : Prop := (Lit.int .i64 h.n).wf = true ∧ h.r.size ≤ maxLen

section
variable {H : Type} {enc : TypeId × Value → H} {w : World} {base : Nat} {spare : Nat → Bool} {held : Bool}

set_option maxRecDepth 1000000 in
theorem cells_head : Tryd.prog.cellsOf 23 = 2 := by kernel_rfl

set_option maxRecDepth 1000000 in
theorem read_head {fuel : Nat} {cs : List Value} {y : DataW H × List MemPlace} (h : DataW.trod enc Tryd.prog w base spare held fuel 23 cs = some y) :
    ∃ n : Hd, cs = n.cs ∧ Okh n := by
  obtain ⟨y0, y1, n, _, hl, h0, h1⟩ := trod_struct2 Tryd.underlying23 h
  rw [cells_head] at hl
  match cs, hl with
  | [c0, c1], _ =>
    have k3 : Tryd.prog.cellsOf 3 = 1 := by kernel_rfl
    have k9 : Tryd.prog.cellsOf 9 = 1 := by kernel_rfl
    simp only [k3, k9, List.drop_zero, List.drop_succ_cons, List.take_succ_cons, List.take_zero] at h0 h1
    obtain ⟨a, e0, _, wa⟩ := DataW.trod_int Tryd.underlying3 h0
    obtain ⟨p, e1, _, wp⟩ := DataW.trod_string Tryd.underlying9 h1
    simp only [List.cons.injEq, and_true] at e0 e1
    subst e0 e1
    exact ⟨⟨a, p⟩, rfl, wa, wp⟩

theorem flat_hds : ∀ l : List Hd, (l.map Hd.cs).flatten = hds l := by
  intro l
  induction l with
  | nil => rfl
  | cons n r ih => rw [List.map_cons, List.flatten_cons, ih]; rfl

theorem rows_hds : ∀ R : List (List Value), (∀ r ∈ R, ∃ n : Hd, r = n.cs ∧ Okh n) → ∃ l : List Hd, R = l.map Hd.cs ∧ ∀ n ∈ l, Okh n := by
  intro R
  induction R with
  | nil => intro _; exact ⟨[], rfl, fun n hn => (by cases hn)⟩
  | cons r R ih =>
    intro h
    obtain ⟨n, rfl, hn⟩ := h r (by simp)
    obtain ⟨l, rfl, hl⟩ := ih (fun x hx => h x (by simp [hx]))
    exact ⟨n :: l, rfl, fun x hx => by rcases List.mem_cons.1 hx with rfl | hx; exact hn; exact hl x hx⟩

end

end Go.Proofs.YtbopliahafkecaaDoor.Open

/- A slice of bytes that came in, as the laws' proofs are told of it, reads as a list of bytes. -/
namespace Go.Proofs.YtbopliahafkecaaDoor.RowSl
open Go.RowKit Go.Proofs.YtbopliahafkecaaDoor.Mem

theorem row_sl {w : World} {a : Option Addr} {len cap : Nat} {zs : List Int}
    (h : (a = none ∧ len = 0 ∧ cap = 0 ∧ zs = []) ∨ ∃ x, a = some x ∧ len ≤ cap ∧ cap ≤ maxLen ∧ zs.length = cap ∧ (∀ i, i < zs.length → w.cell? (x.add i) = some (.int .u8 (zs.getD i 0))) ∧ ∀ n ∈ zs, (Lit.int .u8 n).wf = true) :
    ∃ xs : List Int, Sl w (.slice a len cap) (bs xs) ∧ len = xs.length ∧ Byt xs := by
  rcases h with ⟨rfl, rfl, rfl, rfl⟩ | ⟨x, rfl, hl, hm, hz, hc, hw⟩
  · exact ⟨[], Sl.nil w, rfl, fun x hx => by cases hx⟩
  · have hlen : (zs.take len).length = len := by simp; omega
    refine ⟨zs.take len, ⟨some x, cap, by rw [bs_len, hlen], by rw [bs_len, hlen]; exact hl, fun h => (by cases h), fun hp => ?_⟩, hlen.symm, fun y hy => ?_⟩
    · rw [bs_len, hlen] at hp
      obtain ⟨b, off, rfl, hcell⟩ := ints_at hc (by omega)
      refine ⟨b, off, rfl, fun j hj => ?_⟩
      rw [bs_len, hlen] at hj
      rw [hcell j (by omega), bs_get, List.getElem?_take, if_pos hj]
      simp [show j < zs.length by omega]
    · have := hw y (List.mem_of_mem_take hy)
      simpa [Lit.wf, IntKind.min, IntKind.max, IntKind.signed, IntKind.bits] using this

theorem strs_at {w : World} {a : Addr} {zs : List ByteArray} (h : ∀ i, i < zs.length → w.cell? (a.add i) = some (.string (zs.getD i ByteArray.empty))) (hp : 0 < zs.length) :
    ∃ b off, a = ⟨b, off, none⟩ ∧ ∀ j, j < zs.length → w.cell? ⟨b, off + j, none⟩ = some (.string (zs.getD j ByteArray.empty)) := by
  obtain ⟨b, off, spot⟩ := a
  have hspot : spot = none := by simpa [Addr.add] using World.cell?_spot (h 0 hp)
  subst hspot
  exact ⟨b, off, rfl, fun j hj => by rw [← Go.WideShapes.add_plain]; exact h j hj⟩

theorem row_str {w : World} {x : Addr} {len cap : Nat} {zs : List ByteArray} (hl : len ≤ cap) (hm : cap ≤ maxLen) (hz : zs.length = cap)
    (hc : ∀ i, i < zs.length → w.cell? (x.add i) = some (.string (zs.getD i ByteArray.empty))) (hw : ∀ s ∈ zs, s.size ≤ maxLen) :
    ∃ l : List ByteArray, Sl w (.slice (some x) len cap) (ss l) ∧ (∀ s ∈ l, s.size ≤ maxLen) ∧ l.length ≤ maxLen := by
  have hlen : (zs.take len).length = len := by simp; omega
  refine ⟨zs.take len, ⟨some x, cap, by rw [ss_len, hlen], by rw [ss_len, hlen]; exact hl, fun h => (by cases h), fun hp => ?_⟩, fun s hs => hw s (List.mem_of_mem_take hs), by rw [hlen]; exact Nat.le_trans hl hm⟩
  rw [ss_len, hlen] at hp
  obtain ⟨b, off, rfl, hcell⟩ := strs_at hc (by omega)
  refine ⟨b, off, rfl, fun j hj => ?_⟩
  rw [ss_len, hlen] at hj
  rw [hcell j (by omega), ss_get, List.getElem?_take, if_pos hj]
  simp [show j < zs.length by omega]

theorem i64_bd {n : Int} (h : (Lit.int .i64 n).wf = true) : -9223372036854775808 ≤ n ∧ n ≤ 9223372036854775807 := by
  simpa [Lit.wf, IntKind.min, IntKind.max, IntKind.signed, IntKind.bits] using h

end Go.Proofs.YtbopliahafkecaaDoor.RowSl
