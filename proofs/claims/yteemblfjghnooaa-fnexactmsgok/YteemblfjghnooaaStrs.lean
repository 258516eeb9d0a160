/- Contracts of the laws' own small functions on lists of texts: a copy, a comparison, how much there is, marks laid, marks looked for. -/
import Derived.Test.YteemblfjghnooaaRows
import Derived.Test.YteemblfjghnooaaMem
import Derived.Test.YteemblfjghnooaaBytes
import Derived.Test.YteemblfjghnooaaPuts
import Derived.WalkKit
import Derived.WalkSpells
import Derived.WalkLawsBesides
import Derived.Deep.QuietTactic
import Derived.BigQuiet
import Derived.Deep.RegionWith
namespace Go.Proofs.Yteemblfjghnooaa.Strs
open Go.RowKit Go.Proofs.Yteemblfjghnooaa.Mem Go.Proofs.Yteemblfjghnooaa.Bytes
set_option linter.unusedVariables false

theorem info9 : (Try.prog.info? 9).map (fun i => (i.zero, i.size, i.bytes)) = some (some (.string ⟨#[]⟩), 1, 16) := by kernel_rfl

set_option maxRecDepth 1000000 in
set_option maxHeartbeats 400000 in
/-- toStringS: a copy in new memory. -/
theorem to_s (w : World) (v : Value) (l : List ByteArray) (h : Sl w v (ss l)) (hx : l.length ≤ 1000000000000) :
    Calls Try.prog 46 #[v] w fun e w' => ∃ v', e = .returned v' ∧ Own w' w.heap.size w'.heap.size 9 v' (ss l) ∧ Below w.heap.size w w' := by
  obtain ⟨i0, hi, hz0, hz1, hz2⟩ := info_parts info9
  have hlater : ∀ w', Below w.heap.size w w' → Sl w' v (ss l) := fun w' hb => h.later hb
  obtain ⟨ao, cap, rfl, hc, _, hr⟩ := h
  rw [ss_len] at hr hc hlater
  rw [ss_len]
  go_enter Try.func46, Try.ntmps46
  go_wp2_with (first | (at_make; refine wpList_make_full _ rfl _ _ 26 rfl w.heap.size 9 i0 (.string ⟨#[]⟩) 1 Try.underlying26 hi hz0 hz1 _ _ _ _ l.length rfl rfl rfl rfl (by rw [hz2]; omega) (by unfold maxLen; omega) (Nat.le_refl _) ?_; intro w1 hown hgrow))
  have hbel : Below w.heap.size w w1 := (Below.refl _ _).grown hgrow (Nat.le_refl _) (by simp)
  have hsz : w.heap.size < w1.heap.size := (hown.lt w.heap.size rfl).2
  clear hgrow
  go_loopw [4] (fun i wr => ∃ (k : Nat) (L : List Value), k ≤ l.length ∧ i = .int .i64 k ∧ L.take k = (ss l).take k ∧ wr.ownsRow w.heap.size 9 1 (.slice (some ⟨w.heap.size, 0, none⟩) l.length l.length) l.length L ∧ Below w.heap.size w wr) (fun i _ => l.length - (intOf i).toNat)
  case atStart => exact ⟨0, _, Nat.zero_le _, rfl, by rw [List.take_zero, List.take_zero], hown, hbel⟩
  case round =>
    obtain ⟨k, L, hk, rfl, hE0, hownr, hbr⟩ := hrel
    have HE : Hid (L.take k = (ss l).take k) := hE0
    have hL : L.length = l.length := by have := hownr.1; omega
    have HL : Hid (L.length = l.length) := hL
    clear hE0 hown hbel
    by_cases hlt : k < l.length
    · obtain ⟨ao', cap', he, _, _, hr'⟩ := hlater wr hbr
      rw [ss_len] at he hr'
      simp only [Value.slice.injEq] at he
      obtain ⟨rfl, _, rfl⟩ := he
      obtain ⟨b, off, s, rfl, hx0, hcell⟩ := Sl.strAt hr' rfl hlt
      have HX : Hid (l[k]? = some s) := hx0
      obtain ⟨u, hu⟩ : ∃ u, wr.cell? ⟨w.heap.size, k, none⟩ = some u := ⟨L[k]'(by omega), by rw [hownr.cellAt k (by omega)]; simp⟩
      have hf := hownr.frozenAt k
      have hst := hownr.stored k (.string s)
      have HS : Hid ((wr.setCell ⟨w.heap.size, k, none⟩ (.string s)).ownsRow w.heap.size 9 1 (.slice (some ⟨w.heap.size, 0, none⟩) l.length l.length) l.length (L.set k (.string s))) := hst.1
      clear hx0 hr hr' hst hlater hL
      go_wp2
      go_roundw
      case rel => exact ⟨k + 1, L.set k (.string s), by omega, by go_num, set_take (by have := HL.out; omega) HE.out (by rw [ss_get, HX.out]; rfl), HS.out, hbr.setCell (Nat.le_refl _) _⟩
      case measure => simp [intOf]; omega
    · go_wp2
      go_ret
      refine ⟨_, rfl, ?_, hbr⟩
      have h1 := HE.out
      have h2 := HL.out
      rw [List.take_of_length_le (by omega), List.take_of_length_le (by rw [ss_len]; omega)] at h1
      subst h1
      exact Own.of hownr

set_option maxRecDepth 1000000 in
set_option maxHeartbeats 400000 in
/-- eqStringS of two that read the same: true; no block turns. -/
theorem eqs_true (w : World) (v1 v2 : Value) (l : List ByteArray) (h1 : Sl w v1 (ss l)) (h2 : Sl w v2 (ss l)) (hx : l.length ≤ 1000000000000) :
    Calls Try.prog 48 #[v1, v2] w fun e w' => e = .returned (.bool true) ∧ (∀ B, Below B w w') ∧ w'.heap.size = w.heap.size := by
  obtain ⟨ao, cap, rfl, hc1, _, hr1⟩ := h1
  obtain ⟨bo, cap2, rfl, hc2, _, hr2⟩ := h2
  rw [ss_len] at hr1 hr2 hc1 hc2
  rw [ss_len]
  go_enter Try.func48, Try.ntmps48
  go_wp2
  go_loopw [5] (fun i wr => ∃ k n : Nat, k ≤ l.length ∧ i = .int .i64 k ∧ wr = w.drewN n) (fun i _ => l.length - (intOf i).toNat)
  case atStart => exact ⟨0, 0, Nat.zero_le _, rfl, rfl⟩
  case round =>
    obtain ⟨k, n, hk, rfl, rfl⟩ := hrel
    by_cases hlt : k < l.length
    · obtain ⟨b, off, s, rfl, hx0, hcell⟩ := Sl.strAt hr1 rfl hlt
      obtain ⟨b2, off2, s2, rfl, hy0, hcell2⟩ := Sl.strAt hr2 rfl hlt
      rw [hx0] at hy0
      simp only [Option.some.injEq] at hy0
      subst hy0
      clear hx0 hr1 hr2
      go_wp2
      go_quiet (fail)
      go_wp2
      go_roundw
      case rel => exact ⟨k + 1, n + nq, by omega, by go_num, rfl⟩
      case measure => simp [intOf]; omega
    · go_wp2
      go_ret
      exact ⟨rfl, fun B => below_drewN (Below.refl _ _) n, rfl⟩

theorem tot_take (l : List ByteArray) (k : Nat) (s : ByteArray) (h : l[k]? = some s) : Puts.tot (l.take (k + 1)) = Puts.tot (l.take k) + s.size := by
  induction l generalizing k with
  | nil => simp at h
  | cons x r ih =>
    cases k with
    | zero => simp at h; subst h; simp [Puts.tot]
    | succ k => simp at h; simp only [List.take_succ_cons, Puts.tot]; rw [ih k h]; omega

set_option maxRecDepth 1000000 in
set_option maxHeartbeats 400000 in
/-- szStringS: below 0 where there is more than what is left. -/
theorem sz_any (w : World) (v : Value) (l : List ByteArray) (left : Nat) (h : Sl w v (ss l)) (hs : ∀ s ∈ l, s.size ≤ 9223372036854775807) (hx : l.length ≤ 9223372036854775807) (hlf : left ≤ 1048576) :
    Calls Try.prog 44 #[v, .int .i64 (left : Int)] w fun e w' => (∃ r : Int, e = .returned (.int .i64 r) ∧ (r < 0 ∨ (l.length + Puts.tot l ≤ left ∧ 0 ≤ r))) ∧ w = w' := by
  obtain ⟨ao, cap, rfl, hc1, _, hr1⟩ := h
  rw [ss_len] at hr1 hc1
  rw [ss_len]
  by_cases hbig : left < l.length
  · go_enter Try.func44, Try.ntmps44
    go_wp2
    go_ret
    exact ⟨⟨_, rfl, .inl (by decide)⟩, rfl⟩
  · go_enter Try.func44, Try.ntmps44
    go_wp2
    go_loop [1, 5] (fun lf i => ∃ (k m : Nat), k ≤ l.length ∧ i = .int .i64 k ∧ lf = .int .i64 (m : Int) ∧ m + l.length + Puts.tot (l.take k) = left) (fun _ i => l.length - (intOf i).toNat)
    case atStart => exact ⟨0, left - l.length, Nat.zero_le _, rfl, congrArg (Value.int .i64) (by omega), by simp [Puts.tot]; omega⟩
    case round =>
      obtain ⟨k, m, hk, rfl, rfl, hm⟩ := hrel
      have HM : Hid (m + l.length + Puts.tot (l.take k) = left) := hm
      have hmb : m ≤ 1048576 := by omega
      clear hm
      by_cases hlt : k < l.length
      · obtain ⟨b, off, s, rfl, hx0, hcell⟩ := Sl.strAt hr1 rfl hlt
        have hsz := hs s (List.mem_of_getElem? hx0)
        have HT : Hid (Puts.tot (l.take (k + 1)) = Puts.tot (l.take k) + s.size) := tot_take l k s hx0
        clear hx0 hr1 hs
        by_cases hneg : m < s.size
        · go_wp2
          go_ret
          exact ⟨⟨_, rfl, .inl (by decide)⟩, rfl⟩
        · go_wp2
          go_round
          case rel => exact ⟨k + 1, m - s.size, by omega, by go_num, congrArg (Value.int .i64) (by omega), by have := HM.out; have := HT.out; omega⟩
          case measure => simp [intOf]; omega
      · go_wp2
        go_ret
        refine ⟨⟨_, rfl, .inr ⟨?_, ?_⟩⟩, rfl⟩
        · have h1 := HM.out
          rw [List.take_of_length_le (by omega)] at h1
          omega
        · show (0 : Int) ≤ (m : Int)
          omega

/-- the digits of a number, at most f of them more -/
def digF : Nat → Nat → List UInt8
  | 0, _ => []
  | f + 1, n => if n = 0 then [] else digF f (n / 10) ++ [UInt8.ofNat (48 + n % 10)]
def dig (n : Nat) : List UInt8 := digF n n
theorem digF_any (f : Nat) : ∀ g n, n ≤ f → n ≤ g → digF f n = digF g n := by
  induction f with
  | zero =>
    intro g n h1 h2
    obtain rfl : n = 0 := by omega
    cases g with
    | zero => rfl
    | succ g => rw [digF, digF, if_pos rfl]
  | succ f ih =>
    intro g n h1 h2
    cases g with
    | zero =>
      obtain rfl : n = 0 := by omega
      rw [digF, digF, if_pos rfl]
    | succ g =>
      rw [digF, digF]
      split
      · rfl
      · rw [ih g (n / 10) (by omega) (by omega)]
theorem dig_zero : dig 0 = [] := rfl
theorem dig_step {n : Nat} (h : ¬ n = 0) : dig n = dig (n / 10) ++ [UInt8.ofNat (48 + n % 10)] := by
  unfold dig
  obtain ⟨m, rfl⟩ : ∃ m, n = m + 1 := ⟨n - 1, by omega⟩
  rw [digF, if_neg h, digF_any m ((m + 1) / 10) ((m + 1) / 10) (by omega) (by omega)]
/-- the text of a mark -/
def mt (n : Nat) : ByteArray := ⟨(109 :: dig n).toArray⟩

theorem conv_byte (w : World) (x : Int) (hx : 0 ≤ x ∧ x ≤ 255) : ∀ (u : Int), u = x → (convert 22 9 (.slice (some ⟨w.heap.size, 0, none⟩) 1 1)).run Try.prog (w.alloc (.cells #[.int .u8 u] 5)) = .ok (.string ⟨#[UInt8.ofNat x.toNat]⟩) (w.alloc (.cells #[.int .u8 u] 5)) := by
  intro u hu
  subst hu
  refine run_convert_bytes_back (P := Try.prog) _ 22 9 5 ⟨w.heap.size, 0, none⟩ 1 [UInt8.ofNat u.toNat] Try.underlying22 Try.underlying5 Try.underlying9 (fun j hj => ?_)
  obtain rfl : j = 0 := by simp at hj; omega
  rw [Addr.add_lit, cell_of_row _ w.heap.size 0 #[.int .u8 u] 5 (0, 0) (heap_alloc_new w _)]
  simp only [List.getElem_cons_zero]
  rw [UInt8.toNat_ofNat', show ((u.toNat % 2 ^ 8 : Nat) : Int) = u by omega]
  rfl

theorem ba_cons (c : UInt8) (d : List UInt8) : (⟨#[c]⟩ : ByteArray) ++ ⟨d.toArray⟩ = ⟨(c :: d).toArray⟩ := by
  apply ByteArray.ext
  rw [ByteArray.data_append]
  simp

theorem ofNat48 (x : Nat) : (48 : UInt8) + UInt8.ofNat x = UInt8.ofNat (48 + x) := by
  rw [UInt8.ofNat_add]
  rfl

set_option maxRecDepth 1000000 in
set_option maxHeartbeats 1000000 in
/-- markText of a number above 0. -/
theorem mark_text (w : World) (k : Nat) (hk : 1 ≤ k) (hk2 : k ≤ 140737488355328) :
    Calls Try.prog 67 #[.int .i64 (k : Int)] w fun e w' => e = .returned (.string (mt k)) ∧ Below w.heap.size w w' := by
  go_enter Try.func67, Try.ntmps67
  go_wp2
  go_loopw [0, 3] (fun kk o wr => ∃ (m : Nat) (d : List UInt8), kk = .int .i64 (m : Int) ∧ o = .string ⟨d.toArray⟩ ∧ m + d.length ≤ k ∧ dig m ++ d = dig k ∧ Below w.heap.size w wr) (fun kk _ _ => (intOf kk).toNat)
  case atStart => exact ⟨k, [], rfl, rfl, by simp, by simp, Below.refl _ _⟩
  case round =>
    obtain ⟨m, d, rfl, rfl, hmd, hD0, hb⟩ := hrel
    have HD : Hid (dig m ++ d = dig k) := hD0
    have hsz := hb.size
    clear hD0
    by_cases h0 : 0 < m
    · have hconv := conv_byte wr (48 + (m : Int) % 10) (by omega)
      have HS : Hid (dig (m / 10) ++ (UInt8.ofNat (48 + m % 10) :: d) = dig k) := by
        show _ = _
        rw [← HD.out, dig_step (show ¬ m = 0 by omega), List.append_assoc]
        rfl
      go_wp2
      go_roundw
      case rel => exact ⟨m / 10, UInt8.ofNat (48 + m % 10) :: d, by go_num, by rw [ofNat48, ba_cons], by simp; omega, HS.out, hb.alloc hsz _⟩
      case measure => simp [intOf]; omega
    · go_wp2
      go_ret
      refine ⟨?_, hb⟩
      have h1 := HD.out
      obtain rfl : m = 0 := by omega
      rw [dig_zero, List.nil_append] at h1
      show Ending.returned (.string (_ ++ _)) = _
      rw [ba_cons, h1]
      rfl

/-- marks from k on, as texts -/
def mts (k n : Nat) : List ByteArray := (List.range n).map fun i => mt (k + i)
theorem mts_len (k n : Nat) : (mts k n).length = n := by simp [mts]
theorem mts_get (k n j : Nat) (h : j < n) : (mts k n)[j]? = some (mt (k + j)) := by simp [mts, h]

set_option maxRecDepth 1000000 in
set_option maxHeartbeats 1000000 in
/-- markStringS: each element becomes the next number's text; no other old block turns. -/
theorem marks_any (w : World) (v : Value) (lo hi : Nat) (l : List ByteArray) (k0 : Nat) (h : Own w lo hi 9 v (ss l)) (hhi : hi ≤ w.heap.size) (hx : l.length ≤ 1000000000000) (hk1 : 1 ≤ k0) (hk0 : k0 ≤ 1000000000000) :
    Calls Try.prog 52 #[v, .int .i64 (k0 : Int)] w fun e w' => e = .returned (.int .i64 ((k0 + l.length : Nat) : Int)) ∧ Own w' lo hi 9 v (ss (mts k0 l.length)) ∧ Apart lo hi w w' := by
  have hl0 := h.1.1
  rcases h.1.2 with ⟨rfl, h0⟩ | ⟨g, cap, cur, rfl, hbg, hg, hnc, hcm, hcs, ht⟩
  · have hcs : l = [] := List.eq_nil_of_length_eq_zero (by rw [← ss_len]; exact h0)
    subst hcs
    go_enter Try.func52, Try.ntmps52
    go_wp2
    refine wp_loop_rounds 1 ?_; rw [rounds_succ]
    go_wp2
    go_ret
    exact ⟨rfl, h, Apart.refl _ _ _⟩
  · have hgh : g < hi := h.2 g rfl
    have hown1 := h.1
    rw [ss_len] at hown1 hnc
    rw [ss_len]
    obtain ⟨n, hn⟩ : ∃ n, n = l.length := ⟨_, rfl⟩
    have hown0 : w.ownsRow lo 9 1 (.slice (some ⟨g, 0, none⟩) n cap) n (ss l) := by rw [hn]; exact hown1
    rw [← hn] at hnc hx ⊢
    clear hg hcs ht h hl0 hcm cur hown1
    go_enter Try.func52, Try.ntmps52
    go_wp2
    go_loopw [1, 5] (fun kk i wr => ∃ (k : Nat) (L : List Value), k ≤ n ∧ i = .int .i64 k ∧ kk = .int .i64 ((k0 + k : Nat) : Int) ∧ L.take k = (ss (mts k0 n)).take k ∧ wr.ownsRow lo 9 1 (.slice (some ⟨g, 0, none⟩) n cap) n L ∧ Apart lo hi w wr) (fun _ i _ => n - (intOf i).toNat)
    case atStart => exact ⟨0, ss l, Nat.zero_le _, rfl, rfl, rfl, hown0, Apart.refl _ _ _⟩
    case round =>
      obtain ⟨k, L, hk, rfl, rfl, hE0, hownr, hap⟩ := hrel
      have HE : Hid (L.take k = (ss (mts k0 n)).take k) := hE0
      have HL : Hid (L.length = n) := by have := hownr.1; show L.length = n; omega
      clear hE0 hown0 hn
      by_cases hlt : k < n
      · have hglt : g < wr.heap.size := (hownr.lt g rfl).2
        have hmt := mark_text wr (k0 + k) (by omega) (by omega)
        have ek : ((k0 + k : Nat) : Int) = (k0 : Int) + (k : Int) := by omega
        rw [ek] at hmt ⊢
        go_wp2_with fail
        refine hmt.mono ?_
        rintro e w1 ⟨rfl, hb1⟩
        have hown1 : w1.ownsRow lo 9 1 (.slice (some ⟨g, 0, none⟩) n cap) n L := by
          refine ⟨hownr.1, ?_⟩
          rcases hownr.2 with ⟨h', _⟩ | ⟨g', cap', cur, h', hq, hh, r⟩
          · simp at h'
          · simp only [Value.slice.injEq, Option.some.injEq, Addr.mk.injEq, and_true, true_and] at h'
            obtain ⟨rfl, rfl⟩ := h'
            exact .inr ⟨g, cap, cur, rfl, hq, by rw [hb1.block g hglt]; exact hh, r⟩
        have hap1 := hap.grow hb1
        obtain ⟨u, hu⟩ : ∃ u, w1.cell? ⟨g, k, none⟩ = some u := ⟨L[k]'(by have := HL.out; omega), by rw [hown1.cellAt k (by omega)]; simp⟩
        have hf := hown1.frozenAt k
        have hst := hown1.stored k (.string (mt (k0 + k)))
        have HS : Hid ((w1.setCell ⟨g, k, none⟩ (.string (mt (k0 + k)))).ownsRow lo 9 1 (.slice (some ⟨g, 0, none⟩) n cap) n (L.set k (.string (mt (k0 + k))))) := hst.1
        clear hst hownr hap hb1 hmt
        go_wp2
        go_roundw
        case rel => exact ⟨k + 1, L.set k (.string (mt (k0 + k))), by omega, by go_num, by go_num, set_take (by have := HL.out; omega) HE.out (by rw [ss_get, mts_get _ _ _ hlt]; rfl), HS.out, hap1.setCell hbg hgh _⟩
        case measure => simp [intOf]; omega
      · go_wp2
        go_ret
        have h1 := HE.out
        have h2 := HL.out
        rw [List.take_of_length_le (by omega), List.take_of_length_le (by rw [ss_len, mts_len]; omega)] at h1
        subst h1
        have hkn : k = n := by omega
        subst hkn
        exact ⟨rfl, ⟨by have := hownr; rw [ss_len, mts_len]; exact this, fun g' hg' => by simp [Value.ownBlock] at hg'; omega⟩, hap⟩

set_option maxRecDepth 1000000 in
set_option maxHeartbeats 1000000 in
/-- heldStringS: of marks laid from k0 on: the next number. -/
theorem helds_any (w : World) (v : Value) (n k0 : Nat) (h : Sl w v (ss (mts k0 n))) (hx : n ≤ 1000000000000) (hk1 : 1 ≤ k0) (hk0 : k0 ≤ 1000000000000) :
    Calls Try.prog 53 #[v, .int .i64 (k0 : Int)] w fun e w' => e = .returned (.int .i64 ((k0 + n : Nat) : Int)) ∧ Below w.heap.size w w' := by
  have hlater : ∀ w', Below w.heap.size w w' → Sl w' v (ss (mts k0 n)) := fun w' hb => h.later hb
  obtain ⟨ao, cap, rfl, hc1, _, hr1⟩ := h
  rw [ss_len, mts_len] at hr1 hc1 hlater
  rw [ss_len, mts_len]
  go_enter Try.func53, Try.ntmps53
  go_wp2
  go_loopw [1, 5] (fun kk i wr => ∃ k : Nat, k ≤ n ∧ i = .int .i64 k ∧ kk = .int .i64 ((k0 + k : Nat) : Int) ∧ Below w.heap.size w wr) (fun _ i _ => n - (intOf i).toNat)
  case atStart => exact ⟨0, Nat.zero_le _, rfl, rfl, Below.refl _ _⟩
  case round =>
    obtain ⟨k, hk, rfl, rfl, hb⟩ := hrel
    by_cases hlt : k < n
    · obtain ⟨ao', cap', he, _, _, hr'⟩ := hlater wr hb
      rw [ss_len, mts_len] at he hr'
      simp only [Value.slice.injEq] at he
      obtain ⟨rfl, _, rfl⟩ := he
      obtain ⟨b, off, c, rfl, hx0, hcell⟩ := Sl.strAt hr' (mts_len k0 n).symm hlt
      rw [mts_get _ _ _ hlt] at hx0
      simp only [Option.some.injEq] at hx0
      subst hx0
      have hmt : ∀ wx, Calls Try.prog 67 #[.int .i64 ((k0 + k : Nat) : Int)] wx fun e w' => e = .returned (.string (mt (k0 + k))) ∧ Below wx.heap.size wx w' := fun wx => mark_text wx (k0 + k) (by omega) (by omega)
      have ek : ((k0 + k : Nat) : Int) = (k0 : Int) + (k : Int) := by omega
      rw [ek] at hmt ⊢
      have hsz := hb.size
      clear hr1 hr' hlater
      go_wp2
      go_region_with (go_at_call 67; refine (hmt _).mono ?_; rintro e w1 ⟨rfl, hb1⟩; have hcl := cell_later hb1 (show _ from by first | exact hcell | simpa using hcell))
      all_goals
        go_wp2
        go_roundw
        case rel => exact ⟨k + 1, by omega, by go_num, by go_num, by first | exact (Below.drew hb).trans (hb1.mono hsz) | exact hb.trans (hb1.mono hsz)⟩
        case measure => simp [intOf]; omega
    · go_wp2
      go_ret
      have hkn : k = n := by omega
      subst hkn
      exact ⟨rfl, hb⟩

end Go.Proofs.Yteemblfjghnooaa.Strs
