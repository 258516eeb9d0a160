/- Chapter 10, the laws' helpers: a head's size, its turning, whether two are the same; lists of heads. -/
import Derived.Test.YtccnhhdcdamgmaaDoorHe1
import Derived.Test.YtccnhhdcdamgmaaDoorStrs
namespace Go.Proofs.YtccnhhdcdamgmaaDoor.He
open Go.RowKit Go.Proofs.YtccnhhdcdamgmaaDoor.Mem Go.Proofs.YtccnhhdcdamgmaaDoor.Laws Go.Proofs.YtccnhhdcdamgmaaDoor.Bytes Go.Proofs.YtccnhhdcdamgmaaDoor.Sha Go.Proofs.YtccnhhdcdamgmaaDoor.Tr
set_option linter.unusedVariables false
set_option linter.unusedSimpArgs false

theorem keepH {W W' : World} {p : Addr} {x : Value} (h : W.cell? p = some x) (b : Below W.heap.size W W') : W'.cell? p = some x := by
  rw [b.cell (World.block_lt_of_cell? W p h)]; exact h

set_option maxRecDepth 1000000 in
set_option maxHeartbeats 1000000 in
theorem to_head (w : World) (h : Hd) :
    Calls Tryd.prog 38 #[.agg #[.int .i64 h.n, .string h.r]] w fun e w' => e = .returned (.agg #[.int .i64 h.n, .string h.r]) ∧ Below w.heap.size w w' := by
  have HB : Hid (Below w.heap.size w (((w.alloc (.cells #[.int .i64 h.n, .string h.r] 48)).alloc (.cells #[.int .i64 0, .string ⟨#[]⟩] 26)).alloc (.cells #[.int .i64 h.n, .string h.r] 26))) := (((Below.refl _ _).alloc (Nat.le_refl _) _).alloc (by simp) _).alloc (by simp; omega) _
  have HR1 : Hid ((((w.alloc (.cells #[.int .i64 h.n, .string h.r] 48)).alloc (.cells #[.int .i64 0, .string ⟨#[]⟩] 26)).alloc (.cells #[.int .i64 h.n, .string h.r] 26)).heap[w.heap.size + 1]? = some (.cells #[.int .i64 0, .string ⟨#[]⟩] 26 (0, 0))) := by
    show _ = _
    rw [heap_alloc_old _ _ (by simp)]
    have := heap_alloc_new (w.alloc (.cells #[.int .i64 h.n, .string h.r] 48)) (.cells #[.int .i64 0, .string ⟨#[]⟩] 26)
    simpa using this
  have HR2 : Hid ((((w.alloc (.cells #[.int .i64 h.n, .string h.r] 48)).alloc (.cells #[.int .i64 0, .string ⟨#[]⟩] 26)).alloc (.cells #[.int .i64 h.n, .string h.r] 26)).heap[w.heap.size + 1 + 1]? = some (.cells (hc h) 26 (0, 0))) := by
    show _ = _
    have := heap_alloc_new ((w.alloc (.cells #[.int .i64 h.n, .string h.r] 48)).alloc (.cells #[.int .i64 0, .string ⟨#[]⟩] 26)) (.cells #[.int .i64 h.n, .string h.r] 26)
    simpa [hc] using this
  go_enter Tryd.func38, Tryd.ntmps38
  go_wp2_with (first | (refine wpList_load_row rfl 26 _ rfl (w.heap.size + 1 + 1) rfl 26 (hc h) (0, 0) _ HR2.out Tryd.underlying26 rfl (sizeH h) ?_) | (refine wpList_store_row rfl 26 _ _ rfl (w.heap.size + 1) (hc h) rfl rfl 26 _ HR1.out (sizeH h) rfl (oneH h) ?_))
  exact bodyPost_ret (v := .agg (hc h)) (results_cell_row rfl _ _ (w.heap.size + 1) 26 _ (0, 0) _ rfl (setRow_heap _ _ _ _ _ (0, 0) HR1.out) Tryd.underlying26 rfl (sizeH h)) rfl ⟨rfl, below_setRow HB.out (by omega) _⟩

set_option maxRecDepth 1000000 in
set_option maxHeartbeats 1000000 in
theorem sz_head (w : World) (n : Hd) (left : Int) (hp : n.r.size ≤ 9223372036854775807) (h0 : 0 ≤ left) (h1 : left ≤ 1048576) :
    Calls Tryd.prog 35 #[.agg #[.int .i64 n.n, .string n.r], .int .i64 left] w fun e w' => e = .returned (.int .i64 (if left - n.r.size < 0 then -1 else left - n.r.size)) ∧ Below w.heap.size w w' := by
  have HB : Hid (Below w.heap.size w (w.alloc (.cells #[.int .i64 n.n, .string n.r] 48))) := (Below.refl _ _).alloc (Nat.le_refl _) _
  by_cases hb : left - (n.r.size : Int) < 0
  · have HN : Hid ((if left - n.r.size < 0 then -1 else left - n.r.size) = (-1 : Int)) := by show _ = _; rw [if_pos hb]
    go_enter Tryd.func35, Tryd.ntmps35
    go_wp2
    go_ret
    exact ⟨by first | rfl | (rw [HN.out]; rfl), HB.out⟩
  · have HN : Hid ((if left - n.r.size < 0 then -1 else left - n.r.size) = left - n.r.size) := by show _ = _; rw [if_neg hb]
    go_enter Tryd.func35, Tryd.ntmps35
    go_wp2
    go_ret
    exact ⟨by first | rfl | (rw [HN.out]; rfl), HB.out⟩

set_option maxRecDepth 1000000 in
set_option maxHeartbeats 1000000 in
/-- the sizes of heads: they fit, or the answer is below 0 -/
theorem sz_heads (w : World) (v : Value) (l : List Hd) (left : Nat) (h : Sh w v l) (hz : ∀ n ∈ l, n.r.size ≤ 9223372036854775807) (hx : l.length ≤ 9223372036854775807) (hlf : left ≤ 1048576) :
    Calls Tryd.prog 34 #[v, .int .i64 (left : Int)] w fun e w' => (∃ r : Int, e = .returned (.int .i64 r) ∧ r ≤ left ∧ (r < 0 ∨ (0 ≤ r ∧ l.length ≤ left ∧ ∀ n ∈ l, n.r.size ≤ left))) ∧ Below w.heap.size w w' := by
  have HS : Hid (Sh w v l) := h
  have HZ : Hid (∀ n ∈ l, n.r.size ≤ 9223372036854775807) := hz
  obtain ⟨hcl, ao, cap, rfl, hcap, hnn, _⟩ := h
  clear hz
  by_cases hbig : (left : Int) - l.length < 0
  · go_enter Tryd.func34, Tryd.ntmps34
    go_wp2
    go_ret
    exact ⟨⟨-1, rfl, by omega, .inl (by omega)⟩, Below.refl _ _⟩
  · go_enter Tryd.func34, Tryd.ntmps34
    go_wp2
    go_loopw [1, 5] (fun lf i wr => ∃ (k r : Nat), k ≤ l.length ∧ i = .int .i64 (k : Int) ∧ lf = .int .i64 (r : Int) ∧ r ≤ left ∧ Hid (∀ n ∈ l.take k, n.r.size ≤ left) ∧ Below w.heap.size w wr) (fun _ i _ => l.length - (intOf i).toNat)
    case atStart => exact ⟨0, left - l.length, Nat.zero_le _, rfl, by go_num, by omega, by intro n hn; simp at hn, Below.refl _ _⟩
    case round =>
      obtain ⟨k, r, hk, rfl, rfl, hr, HA, hB⟩ := hrel
      by_cases hlt : k < l.length
      · obtain ⟨n, hn⟩ : ∃ n, l[k]? = some n := ⟨l[k], by simp [hlt]⟩
        obtain ⟨b, off, cap', he, _, c0, c1⟩ := Sh.at (HS.out.later hB) hn
        simp only [Value.slice.injEq] at he
        obtain ⟨rfl, _, rfl⟩ := he
        have hnz := HZ.out n (List.mem_of_getElem? hn)
        have q : ∀ W, _ := fun W => sz_head W n (r : Int) hnz (by omega) (by omega)
        have HT : Hid (l.take (k + 1) = l.take k ++ [n]) := by show _ = _; rw [List.take_add_one, hn]; rfl
        clear hn hnz
        by_cases hc : (r : Int) - n.r.size < 0
        · simp only [if_pos hc] at q
          go_wp2_with (go_at_call 35; refine (q _).mono ?_; rintro e W1 ⟨rfl, b1⟩)
          go_ret
          exact ⟨⟨-1, rfl, by omega, .inl (by omega)⟩, hB.trans (b1.mono hB.size)⟩
        · simp only [if_neg hc] at q
          obtain ⟨r2, hr2⟩ : ∃ r2 : Nat, (r : Int) - n.r.size = (r2 : Int) := ⟨((r : Int) - n.r.size).toNat, by omega⟩
          simp only [hr2] at q
          have hr3 : r2 ≤ left := by omega
          have HN : Hid (∀ x ∈ l.take (k + 1), x.r.size ≤ left) := by
            intro x hx
            rw [HT.out] at hx
            rcases List.mem_append.1 hx with h | h
            · exact HA.out x h
            · simp at h
              subst h
              omega
          clear hc hr2
          go_wp2_with (go_at_call 35; refine (q _).mono ?_; rintro e W1 ⟨rfl, b1⟩)
          go_roundw
          case rel => exact ⟨k + 1, r2, by omega, by go_num, rfl, hr3, HN, hB.trans (b1.mono hB.size)⟩
          case measure => simp [intOf]; omega
      · have HN : Hid (∀ n ∈ l, n.r.size ≤ left) := by
          have := HA.out
          rw [List.take_of_length_le (by omega)] at this
          exact this
        go_wp2
        go_ret
        exact ⟨⟨(r : Int), rfl, by omega, .inr ⟨by omega, by omega, HN.out⟩⟩, hB⟩

theorem infoH : (Tryd.prog.info? 26).map (fun i => (i.zero, i.size, i.bytes)) = some (some (.agg #[.int .i64 0, .string ⟨#[]⟩]), 2, 24) := by kernel_rfl

set_option maxRecDepth 1000000 in
set_option maxHeartbeats 1000000 in
/-- a list of heads, turned: a copy in new memory -/
theorem to_heads (w : World) (v : Value) (l : List Hd) (h : Sh w v l) (hx : l.length ≤ 1000000000) :
    Calls Tryd.prog 37 #[v] w fun e w' => ∃ v', e = .returned v' ∧ Oh w' w.heap.size w'.heap.size v' l ∧ Below w.heap.size w w' := by
  obtain ⟨i0, hi, hz0, hz1, hz2⟩ := info_parts infoH
  have HS : Hid (Sh w v l) := h
  obtain ⟨hcl, ao, cap, rfl, hcap, hnn, _⟩ := h
  have HCL : Hid ((hds l).length = l.length * 2) := hcl
  clear hcl
  go_enter Tryd.func37, Tryd.ntmps37
  go_wp2_with (first | (at_make; refine wpList_make_full _ rfl _ _ 29 rfl w.heap.size 26 i0 (.agg #[.int .i64 0, .string ⟨#[]⟩]) 2 Tryd.underlying29 hi hz0 hz1 _ _ _ _ l.length rfl rfl rfl rfl (by rw [hz2]; omega) (by unfold maxLen; omega) (Nat.le_refl _) ?_; intro w1 hown hgrow))
  have hbel : Below w.heap.size w w1 := (Below.refl _ _).grown hgrow (Nat.le_refl _) (by simp)
  have hsz : w.heap.size < w1.heap.size := (hown.lt w.heap.size rfl).2
  clear hgrow
  go_loopw [4] (fun i wr => ∃ (k : Nat) (L : List Value), k ≤ l.length ∧ i = .int .i64 (k : Int) ∧ Hid (L.take (k * 2) = (hds l).take (k * 2)) ∧ wr.ownsRow w.heap.size 26 2 (.slice (some ⟨w.heap.size, 0, none⟩) l.length l.length) l.length L ∧ Below w.heap.size w wr) (fun i _ => l.length - (intOf i).toNat)
  case atStart => exact ⟨0, _, Nat.zero_le _, rfl, by show _ = _; simp, hown, hbel⟩
  case round =>
    obtain ⟨k, L, hk, rfl, HE, hownr, hbr⟩ := hrel
    have HL : Hid (L.length = l.length * 2) := hownr.1
    clear hown hbel
    by_cases hlt : k < l.length
    · obtain ⟨n, hn⟩ : ∃ n, l[k]? = some n := ⟨l[k], by simp [hlt]⟩
      obtain ⟨b, off, cap', he, _, c0, c1⟩ := Sh.at (HS.out.later hbr) hn
      simp only [Value.slice.injEq] at he
      obtain ⟨rfl, _, rfl⟩ := he
      have q : ∀ W, _ := fun W => to_head W n
      have HG := hds_get l k n hn
      have HG' : Hid _ := HG
      clear hn HG
      have HO : Hid (wr.ownsRow w.heap.size 26 2 (.slice (some ⟨w.heap.size, 0, none⟩) l.length l.length) l.length L) := hownr
      have hgw : w.heap.size < wr.heap.size := (hownr.lt w.heap.size rfl).2
      clear hownr
      go_wp2_with fail
      refine (q _).mono ?_
      rintro e w4 ⟨rfl, b4⟩
      have ho4 : w4.ownsRow w.heap.size 26 2 (.slice (some ⟨w.heap.size, 0, none⟩) l.length l.length) l.length L := ((On.of HO.out).later b4 (Nat.le_refl _)).1
      have hB4 : Below w.heap.size w w4 := hbr.trans (b4.mono hbr.size)
      have th : w4.there w.heap.size (k * 2) 2 := there_own ho4 (by omega)
      obtain ⟨W5, HW5, HO5, HB5⟩ : ∃ W5, Hid (w4.setCells w.heap.size (k * 2) (hc n).toList = W5) ∧ Hid (W5.ownsRow w.heap.size 26 2 (.slice (some ⟨w.heap.size, 0, none⟩) l.length l.length) l.length (putL L (k * 2) (hc n).toList)) ∧ Hid (Below w.heap.size w W5) :=
        ⟨_, rfl, own_setCells _ (k * 2) w4 L ho4, below_setCells (Nat.le_refl _) _ _ w4 hB4⟩
      have HP : Hid ((putL L (k * 2) (hc n).toList).take ((k + 1) * 2) = (hds l).take ((k + 1) * 2)) := by
        refine putL_take (by rw [HL.out, HCL.out]) (by rw [HCL.out]; omega) HE.out rfl ?_
        obtain ⟨g0, g1⟩ := HG'.out
        intro j hj
        match j, hj with
        | 0, _ => exact g0
        | 1, _ => exact g1
      clear ho4 hB4 HO HG' b4 q c0 c1
      go_wp2_with (refine wpList_store_mid rfl 26 _ _ rfl w.heap.size (k * 2) (hc n) rfl rfl th (sizeH n) (oneH n) ?_; rw [HW5.out])
      go_roundw
      case rel => exact ⟨k + 1, _, by omega, by go_num, HP, HO5.out, HB5.out⟩
      case measure => simp [intOf]; omega
    · go_wp2
      go_ret
      refine ⟨_, rfl, ?_, hbr⟩
      have h1 := HE.out
      have h2 := HL.out
      rw [List.take_of_length_le (by omega), List.take_of_length_le (by rw [HCL.out]; omega)] at h1
      subst h1
      exact On.of hownr

set_option maxRecDepth 1000000 in
set_option maxHeartbeats 1000000 in
theorem eq_head (w : World) (h : Hd) :
    Calls Tryd.prog 77 #[.agg #[.int .i64 h.n, .string h.r], .agg #[.int .i64 h.n, .string h.r]] w fun e w' => e = .returned (.bool true) ∧ Below w.heap.size w w' := by
  have HB : Hid (Below w.heap.size w ((w.alloc (.cells #[.int .i64 h.n, .string h.r] 26)).alloc (.cells #[.int .i64 h.n, .string h.r] 26))) := ((Below.refl _ _).alloc (Nat.le_refl _) _).alloc (by simp) _
  have n1 : (h.r.toList == h.r.toList) = true := by simp
  have n2 : (h.n != h.n) = false := by simp
  go_enter Tryd.func77, Tryd.ntmps77
  go_wp2
  go_ret
  exact ⟨rfl, HB.out⟩

end Go.Proofs.YtccnhhdcdamgmaaDoor.He
