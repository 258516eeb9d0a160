/- Texts in one: HeE, He2, He3, HeO, Sr1, Lg1, Lg2, Sr2, Mg1. -/
import Derived.Test.YtchonoonclllbaaGreatDoorPv9
import Derived.Test.YtchonoonclllbaaGreatDoorPv6
import Derived.Test.YtchonoonclllbaaGreatDoorPv8
import Derived.Test.YtchonoonclllbaaGreatDoorPv5
import Derived.Laws.StructEq
import Derived.BigQuiet
import Derived.Deep.RegionHeld3
namespace Go.Proofs.YtchonoonclllbaaGreatDoor.He
open Go.RowKit Go.Proofs.YtchonoonclllbaaGreatDoor.Mem Go.Proofs.YtchonoonclllbaaGreatDoor.Laws Go.Proofs.YtchonoonclllbaaGreatDoor.Bytes Go.Proofs.YtchonoonclllbaaGreatDoor.Sha Go.Proofs.YtchonoonclllbaaGreatDoor.Tr
set_option linter.unusedVariables false
set_option linter.unusedSimpArgs false
theorem fieldsH : Tryz.prog.underlying 26 = some (.struct (Tryz.prog.fieldsOf 26)) := by kernel_rfl
theorem heldH : Tryz.prog.stoodInHeld 26 = false := by kernel_rfl
theorem guardH : Tryz.prog.eqGuardType Tryz.prog.depth 26 = false := by kernel_rfl
theorem eqHrun (w : World) (a b : Hd) :
  (Op.equalIn 10000 26 (.agg #[.int .i64 a.n, .string a.r]) (.agg #[.int .i64 b.n, .string b.r])).run Tryz.prog w = .ok (eqH a b) w := by
 rw [run_equalIn_struct w 9999 _ _ _ fieldsH heldH]
 simp [Program.fieldsOf, Tryz.underlying26, Op.eqFields, go_sem, run_underlying Tryz.underlying3, run_underlying Tryz.underlying9, Tryz.underlying3, Tryz.underlying9, part]
 unfold eqH
 repeat' split
 all_goals simp_all
theorem eqlH (w : World) (a b : Hd) : (binOp .eql 26 (.agg #[.int .i64 a.n, .string a.r]) (.agg #[.int .i64 b.n, .string b.r])).run Tryz.prog w = .ok (.bool (eqH a b)) w := by
 rw [run_eql_struct, eqHrun]
 rfl
theorem neqH (w : World) (a b : Hd) : (binOp .neq 26 (.agg #[.int .i64 a.n, .string a.r]) (.agg #[.int .i64 b.n, .string b.r])).run Tryz.prog w = .ok (.bool (!eqH a b)) w := by
 rw [run_neq_struct, eqHrun]
 rfl
theorem grdH (w : World) (op : BinOp) (x y : Operand) (xs ys : Array Value) : (eqGuard op 26 x y (.agg xs) (.agg ys)).run Tryz.prog w = .ok () w := run_eqGuard_agg w op 26 x y xs ys guardH
theorem eqH_iff (a b : Hd) : eqH a b = true ↔ a = b := by
 unfold eqH
 simp only [Bool.and_eq_true, beq_iff_eq, ByteArray.toList_eq]
 constructor
 ·
  rintro ⟨h1, h2⟩
  exact Hd.ext' h1 (by apply ByteArray.ext; apply Array.ext'; exact h2)
 ·
  rintro rfl
  exact ⟨rfl, rfl⟩
theorem keepH {W W' : World} {p : Addr} {x : Value} (h : W.cell? p = some x) (b : Below W.heap.size W W') : W'.cell? p = some x := by
 rw [b.cell (World.block_lt_of_cell? W p h)]; exact h
set_option maxRecDepth 1000000 in
set_option maxHeartbeats 1000000 in
theorem to_head (w : World) (h : Hd) :
  Calls Tryz.prog 77 #[.agg #[.int .i64 h.n, .string h.r]] w fun e w' => e = .returned (.agg #[.int .i64 h.n, .string h.r]) ∧ Below w.heap.size w w' := by
 have HB : Hid (Below w.heap.size w (((w.alloc (.cells #[.int .i64 h.n, .string h.r] 57)).alloc (.cells #[.int .i64 0, .string ⟨#[]⟩] 26)).alloc (.cells #[.int .i64 h.n, .string h.r] 26))) := (((Below.refl _ _).alloc (Nat.le_refl _) _).alloc (by simp) _).alloc (by simp; omega) _
 have HR1 : Hid ((((w.alloc (.cells #[.int .i64 h.n, .string h.r] 57)).alloc (.cells #[.int .i64 0, .string ⟨#[]⟩] 26)).alloc (.cells #[.int .i64 h.n, .string h.r] 26)).heap[w.heap.size + 1]? = some (.cells #[.int .i64 0, .string ⟨#[]⟩] 26 (0, 0))) := by
  show _ = _
  rw [heap_alloc_old _ _ (by simp)]
  have := heap_alloc_new (w.alloc (.cells #[.int .i64 h.n, .string h.r] 57)) (.cells #[.int .i64 0, .string ⟨#[]⟩] 26)
  simpa using this
 have HR2 : Hid ((((w.alloc (.cells #[.int .i64 h.n, .string h.r] 57)).alloc (.cells #[.int .i64 0, .string ⟨#[]⟩] 26)).alloc (.cells #[.int .i64 h.n, .string h.r] 26)).heap[w.heap.size + 1 + 1]? = some (.cells (hc h) 26 (0, 0))) := by
  show _ = _
  have := heap_alloc_new ((w.alloc (.cells #[.int .i64 h.n, .string h.r] 57)).alloc (.cells #[.int .i64 0, .string ⟨#[]⟩] 26)) (.cells #[.int .i64 h.n, .string h.r] 26)
  simpa [hc] using this
 go_enter Tryz.func77, Tryz.ntmps77
 go_wp2_with (first | (refine wpList_load_row rfl 26 _ rfl (w.heap.size + 1 + 1) rfl 26 (hc h) (0, 0) _ HR2.out Tryz.underlying26 rfl (sizeH h) ?_) | (refine wpList_store_row rfl 26 _ _ rfl (w.heap.size + 1) (hc h) rfl rfl 26 _ HR1.out (sizeH h) rfl (oneH h) ?_))
 exact bodyPost_ret (v := .agg (hc h)) (results_cell_row rfl _ _ (w.heap.size + 1) 26 _ (0, 0) _ rfl (setRow_heap _ _ _ _ _ (0, 0) HR1.out) Tryz.underlying26 rfl (sizeH h)) rfl ⟨rfl, below_setRow HB.out (by omega) _⟩
set_option maxRecDepth 1000000 in
set_option maxHeartbeats 1000000 in
theorem sz_head (w : World) (n : Hd) (left : Int) (hp : n.r.size ≤ 9223372036854775807) (h0 : 0 ≤ left) (h1 : left ≤ 1048576) :
  Calls Tryz.prog 75 #[.agg #[.int .i64 n.n, .string n.r], .int .i64 left] w fun e w' => e = .returned (.int .i64 (if left - n.r.size < 0 then -1 else left - n.r.size)) ∧ Below w.heap.size w w' := by
 have HB : Hid (Below w.heap.size w (w.alloc (.cells #[.int .i64 n.n, .string n.r] 57))) := (Below.refl _ _).alloc (Nat.le_refl _) _
 by_cases hb : left - (n.r.size : Int) < 0
 ·
  have HN : Hid ((if left - n.r.size < 0 then -1 else left - n.r.size) = (-1 : Int)) := by show _ = _; rw [if_pos hb]
  go_enter Tryz.func75, Tryz.ntmps75
  go_wp2
  go_ret
  exact ⟨by first | rfl | (rw [HN.out]; rfl), HB.out⟩
 ·
  have HN : Hid ((if left - n.r.size < 0 then -1 else left - n.r.size) = left - n.r.size) := by show _ = _; rw [if_neg hb]
  go_enter Tryz.func75, Tryz.ntmps75
  go_wp2
  go_ret
  exact ⟨by first | rfl | (rw [HN.out]; rfl), HB.out⟩
set_option maxRecDepth 1000000 in
set_option maxHeartbeats 1000000 in
theorem sz_heads (w : World) (v : Value) (l : List Hd) (left : Nat) (h : Sh w v l) (hz : ∀ n ∈ l, n.r.size ≤ 9223372036854775807) (hx : l.length ≤ 9223372036854775807) (hlf : left ≤ 1048576) :
  Calls Tryz.prog 32 #[v, .int .i64 (left : Int)] w fun e w' => (∃ r : Int, e = .returned (.int .i64 r) ∧ r ≤ left ∧ (r < 0 ∨ (0 ≤ r ∧ l.length ≤ left ∧ ∀ n ∈ l, n.r.size ≤ left))) ∧ Below w.heap.size w w' := by
 have HS : Hid (Sh w v l) := h
 have HZ : Hid (∀ n ∈ l, n.r.size ≤ 9223372036854775807) := hz
 obtain ⟨hcl, ao, cap, rfl, hcap, hnn, _⟩ := h
 clear hz
 by_cases hbig : (left : Int) - l.length < 0
 ·
  go_enter Tryz.func32, Tryz.ntmps32
  go_wp2
  go_ret
  exact ⟨⟨-1, rfl, by omega, .inl (by omega)⟩, Below.refl _ _⟩
 ·
  go_enter Tryz.func32, Tryz.ntmps32
  go_wp2
  go_loopw [1, 5] (fun lf i wr => ∃ (k r : Nat), k ≤ l.length ∧ i = .int .i64 (k : Int) ∧ lf = .int .i64 (r : Int) ∧ r ≤ left ∧ Hid (∀ n ∈ l.take k, n.r.size ≤ left) ∧ Below w.heap.size w wr) (fun _ i _ => l.length - (intOf i).toNat)
  case atStart => exact ⟨0, left - l.length, Nat.zero_le _, rfl, by go_num, by omega, by intro n hn; simp at hn, Below.refl _ _⟩
  case round =>
   obtain ⟨k, r, hk, rfl, rfl, hr, HA, hB⟩ := hrel
   by_cases hlt : k < l.length
   ·
    obtain ⟨n, hn⟩ : ∃ n, l[k]? = some n := ⟨l[k], by simp [hlt]⟩
    obtain ⟨b, off, cap', he, _, c0, c1⟩ := Sh.at (HS.out.later hB) hn
    simp only [Value.slice.injEq] at he
    obtain ⟨rfl, _, rfl⟩ := he
    have hnz := HZ.out n (List.mem_of_getElem? hn)
    have q : ∀ W, _ := fun W => sz_head W n (r : Int) hnz (by omega) (by omega)
    have HT : Hid (l.take (k + 1) = l.take k ++ [n]) := by show _ = _; rw [List.take_add_one, hn]; rfl
    clear hn hnz
    by_cases hc : (r : Int) - n.r.size < 0
    ·
     simp only [if_pos hc] at q
     go_wp2_with (go_at_call 75; refine (q _).mono ?_; rintro e W1 ⟨rfl, b1⟩)
     go_ret
     exact ⟨⟨-1, rfl, by omega, .inl (by omega)⟩, hB.trans (b1.mono hB.size)⟩
    ·
     simp only [if_neg hc] at q
     obtain ⟨r2, hr2⟩ : ∃ r2 : Nat, (r : Int) - n.r.size = (r2 : Int) := ⟨((r : Int) - n.r.size).toNat, by omega⟩
     simp only [hr2] at q
     have hr3 : r2 ≤ left := by omega
     have HN : Hid (∀ x ∈ l.take (k + 1), x.r.size ≤ left) := by
      intro x hx
      rw [HT.out] at hx
      rcases List.mem_append.1 hx with h | h
      ·
       exact HA.out x h
      ·
       simp at h
       subst h
       omega
     clear hc hr2
     go_wp2_with (go_at_call 75; refine (q _).mono ?_; rintro e W1 ⟨rfl, b1⟩)
     go_roundw
     case rel => exact ⟨k + 1, r2, by omega, by go_num, rfl, hr3, HN, hB.trans (b1.mono hB.size)⟩
     case measure => simp [intOf]; omega
   ·
    have HN : Hid (∀ n ∈ l, n.r.size ≤ left) := by
     have := HA.out
     rw [List.take_of_length_le (by omega)] at this
     exact this
    go_wp2
    go_ret
    exact ⟨⟨(r : Int), rfl, by omega, .inr ⟨by omega, by omega, HN.out⟩⟩, hB⟩
theorem infoH : (Tryz.prog.info? 26).map (fun i => (i.zero, i.size, i.bytes)) = some (some (.agg #[.int .i64 0, .string ⟨#[]⟩]), 2, 24) := by kernel_rfl
set_option maxRecDepth 1000000 in
set_option maxHeartbeats 1000000 in
theorem to_heads (w : World) (v : Value) (l : List Hd) (h : Sh w v l) (hx : l.length ≤ 1000000000) :
  Calls Tryz.prog 34 #[v] w fun e w' => ∃ v', e = .returned v' ∧ Oh w' w.heap.size w'.heap.size v' l ∧ Below w.heap.size w w' := by
 obtain ⟨i0, hi, hz0, hz1, hz2⟩ := info_parts infoH
 have HS : Hid (Sh w v l) := h
 obtain ⟨hcl, ao, cap, rfl, hcap, hnn, _⟩ := h
 have HCL : Hid ((hds l).length = l.length * 2) := hcl
 clear hcl
 go_enter Tryz.func34, Tryz.ntmps34
 go_wp2_with (first | (at_make; refine wpList_make_full _ rfl _ _ 33 rfl w.heap.size 26 i0 (.agg #[.int .i64 0, .string ⟨#[]⟩]) 2 Tryz.underlying33 hi hz0 hz1 _ _ _ _ l.length rfl rfl rfl rfl (by rw [hz2]; omega) (by unfold maxLen; omega) (Nat.le_refl _) ?_; intro w1 hown hgrow))
 have hbel : Below w.heap.size w w1 := (Below.refl _ _).grown hgrow (Nat.le_refl _) (by simp)
 have hsz : w.heap.size < w1.heap.size := (hown.lt w.heap.size rfl).2
 clear hgrow
 go_loopw [4] (fun i wr => ∃ (k : Nat) (L : List Value), k ≤ l.length ∧ i = .int .i64 (k : Int) ∧ Hid (L.take (k * 2) = (hds l).take (k * 2)) ∧ wr.ownsRow w.heap.size 26 2 (.slice (some ⟨w.heap.size, 0, none⟩) l.length l.length) l.length L ∧ Below w.heap.size w wr) (fun i _ => l.length - (intOf i).toNat)
 case atStart => exact ⟨0, _, Nat.zero_le _, rfl, by show _ = _; simp, hown, hbel⟩
 case round =>
  obtain ⟨k, L, hk, rfl, HE, hownr, hbr⟩ := hrel
  have HL : Hid (L.length = l.length * 2) := hownr.1
  clear hown hbel
  by_cases hlt : k < l.length
  ·
   obtain ⟨n, hn⟩ : ∃ n, l[k]? = some n := ⟨l[k], by simp [hlt]⟩
   obtain ⟨b, off, cap', he, _, c0, c1⟩ := Sh.at (HS.out.later hbr) hn
   simp only [Value.slice.injEq] at he
   obtain ⟨rfl, _, rfl⟩ := he
   have q : ∀ W, _ := fun W => to_head W n
   have HG := hds_get l k n hn
   have HG' : Hid _ := HG
   clear hn HG
   have HO : Hid (wr.ownsRow w.heap.size 26 2 (.slice (some ⟨w.heap.size, 0, none⟩) l.length l.length) l.length L) := hownr
   have hgw : w.heap.size < wr.heap.size := (hownr.lt w.heap.size rfl).2
   clear hownr
   go_wp2_with fail
   refine (q _).mono ?_
   rintro e w4 ⟨rfl, b4⟩
   have ho4 : w4.ownsRow w.heap.size 26 2 (.slice (some ⟨w.heap.size, 0, none⟩) l.length l.length) l.length L := ((On.of HO.out).later b4 (Nat.le_refl _)).1
   have hB4 : Below w.heap.size w w4 := hbr.trans (b4.mono hbr.size)
   have th : w4.there w.heap.size (k * 2) 2 := there_own ho4 (by omega)
   obtain ⟨W5, HW5, HO5, HB5⟩ : ∃ W5, Hid (w4.setCells w.heap.size (k * 2) (hc n).toList = W5) ∧ Hid (W5.ownsRow w.heap.size 26 2 (.slice (some ⟨w.heap.size, 0, none⟩) l.length l.length) l.length (putL L (k * 2) (hc n).toList)) ∧ Hid (Below w.heap.size w W5) :=
    ⟨_, rfl, own_setCells _ (k * 2) w4 L ho4, below_setCells (Nat.le_refl _) _ _ w4 hB4⟩
   have HP : Hid ((putL L (k * 2) (hc n).toList).take ((k + 1) * 2) = (hds l).take ((k + 1) * 2)) := by
    refine putL_take (by rw [HL.out, HCL.out]) (by rw [HCL.out]; omega) HE.out rfl ?_
    obtain ⟨g0, g1⟩ := HG'.out
    intro j hj
    match j, hj with
    | 0, _ => exact g0
    | 1, _ => exact g1
   clear ho4 hB4 HO HG' b4 q c0 c1
   go_wp2_with (refine wpList_store_mid rfl 26 _ _ rfl w.heap.size (k * 2) (hc n) rfl rfl th (sizeH n) (oneH n) ?_; rw [HW5.out])
   go_roundw
   case rel => exact ⟨k + 1, _, by omega, by go_num, HP, HO5.out, HB5.out⟩
   case measure => simp [intOf]; omega
  ·
   go_wp2
   go_ret
   refine ⟨_, rfl, ?_, hbr⟩
   have h1 := HE.out
   have h2 := HL.out
   rw [List.take_of_length_le (by omega), List.take_of_length_le (by rw [HCL.out]; omega)] at h1
   subst h1
   exact On.of hownr
set_option maxRecDepth 1000000 in
set_option maxHeartbeats 1000000 in
theorem eq_head (w : World) (h : Hd) :
  Calls Tryz.prog 79 #[.agg #[.int .i64 h.n, .string h.r], .agg #[.int .i64 h.n, .string h.r]] w fun e w' => e = .returned (.bool true) ∧ Below w.heap.size w w' := by
 have HB : Hid (Below w.heap.size w ((w.alloc (.cells #[.int .i64 h.n, .string h.r] 26)).alloc (.cells #[.int .i64 h.n, .string h.r] 26))) := ((Below.refl _ _).alloc (Nat.le_refl _) _).alloc (by simp) _
 have n1 : (h.r.toList == h.r.toList) = true := by simp
 have n2 : (h.n != h.n) = false := by simp
 go_enter Tryz.func79, Tryz.ntmps79
 go_wp2
 go_ret
 exact ⟨rfl, HB.out⟩
set_option maxRecDepth 1000000 in
set_option maxHeartbeats 1000000 in
theorem ok_spec (w : World) (h : Hd) : Calls Tryz.prog 50 #[.agg #[.int .i64 h.n, .string h.r]] w fun e w' => e = .returned (.bool (okH h)) ∧ Below w.heap.size w w' := by
 have HB : Hid (Below w.heap.size w (w.alloc (.cells #[.int .i64 h.n, .string h.r] 26))) := (Below.refl _ _).alloc (Nat.le_refl _) _
 by_cases hn : 0 ≤ h.n ∧ h.n ≤ 200
 ·
  have q := in6t (w.alloc (.cells #[.int .i64 h.n, .string h.r] 26)) hn
  obtain ⟨t, ht⟩ : ∃ t, ((h.r.size : Int) == 32) = t := ⟨_, rfl⟩
  have HN : Hid (okH h = t) := by
   show _ = _
   rw [← ht]
   unfold okH
   by_cases h32 : h.r.size = 32
   ·
    rw [decide_eq_true ⟨hn, h32⟩, h32]; rfl
   ·
    rw [decide_eq_false (fun c => h32 c.2)]
    exact (beq_eq_false_iff_ne.2 (by omega)).symm
  clear hn
  go_enter Tryz.func50, Tryz.ntmps50
  go_wp2_with fail
  refine q.mono ?_
  rintro e w1 ⟨rfl, rfl⟩
  go_wp2
  go_ret
  exact ⟨by rw [HN.out]; rfl, HB.out⟩
 ·
  have q := in6f (w.alloc (.cells #[.int .i64 h.n, .string h.r] 26)) hn
  have HN : Hid (okH h = false) := by show _ = _; unfold okH; rw [decide_eq_false (fun c => hn c.1)]
  clear hn
  go_enter Tryz.func50, Tryz.ntmps50
  go_wp2_with fail
  refine q.mono ?_
  rintro e w1 ⟨rfl, rfl⟩
  go_wp2
  go_ret
  exact ⟨by rw [HN.out]; rfl, HB.out⟩
theorem signed_snoc {t : List Hd} {k : Nat} {x : Hd} (hx : t[k]? = some x) (h : Hd) : signed (t.take (k + 1)) h = (signed (t.take k) h || eqH x h) := by
 unfold signed
 rw [List.take_add_one, hx]
 simp
theorem signed_yes {t : List Hd} {k : Nat} {x h : Hd} (hx : t[k]? = some x) (he : eqH x h = true) : signed t h = true := by
 unfold signed
 rw [List.any_eq_true]
 exact ⟨x, List.mem_of_getElem? hx, he⟩
set_option maxRecDepth 1000000 in
set_option maxHeartbeats 1000000 in
theorem signed_spec (w : World) (v : Value) (t : List Hd) (h : Hd) (hs : Sh w v t) (hx : t.length ≤ 1000000000000) :
  Calls Tryz.prog 91 #[v, .agg #[.int .i64 h.n, .string h.r]] w fun e w' => e = .returned (.bool (signed t h)) ∧ Below w.heap.size w w' := by
 obtain ⟨W, hW, r0, bW⟩ : ∃ W, Hid (w.alloc (.cells #[.int .i64 h.n, .string h.r] 26) = W) ∧ W.heap[w.heap.size]? = some (.cells (hc h) 26 (0, 0)) ∧ Below w.heap.size w W := ⟨_, rfl, heap_alloc_new w _, (Below.refl _ _).alloc (Nat.le_refl _) _⟩
 have HS : Hid (Sh W v t) := hs.later bW
 obtain ⟨ao, cap, rfl, hcap⟩ := Sh.form hs
 have p0 : W.cell? ⟨w.heap.size, 0, none⟩ = some (.int .i64 h.n) := row_at r0 0
 have p1 : W.cell? ⟨w.heap.size, 1, none⟩ = some (.string h.r) := row_at r0 1
 obtain ⟨S, hS⟩ : ∃ S, signed t h = S := ⟨_, rfl⟩
 rw [hS]
 have HSS : Hid (signed t h = S) := hS
 have eq1 : ∀ (W : World) (x : Hd), _ := fun W x => eqlH W x h
 have gr1 : ∀ (W : World) (x y : Operand) (xs ys : Array Value), _ := fun W x y xs ys => grdH W .eql x y xs ys
 clear hs hS r0
 go_enter Tryz.func91, Tryz.ntmps91
 go_wp2
 rw [hW.out]
 go_loopw [5] (fun i wr => ∃ k n : Nat, k ≤ t.length ∧ i = .int .i64 (k : Int) ∧ Hid (signed (t.take k) h = false) ∧ wr = W.drewN n) (fun i _ => t.length - (intOf i).toNat)
 case atStart => exact ⟨0, 0, Nat.zero_le _, rfl, rfl, rfl⟩
 case round =>
  obtain ⟨k, n, hk, rfl, HK, rfl⟩ := hrel
  by_cases hlt : k < t.length
  ·
   obtain ⟨x, hx0⟩ : ∃ x, t[k]? = some x := ⟨t[k], by simp [hlt]⟩
   obtain ⟨b, off, cap', he, _, c0, c1⟩ := Sh.at HS.out hx0
   simp only [Value.slice.injEq] at he
   obtain ⟨rfl, _, rfl⟩ := he
   have eq2 := fun W => eq1 W x
   by_cases hxh : eqH x h = true
   ·
    have HF : Hid (S = true) := by show _ = _; rw [← HSS.out]; exact signed_yes hx0 hxh
    simp only [hxh] at eq2
    clear hx0 HK eq1 hxh
    go_wp2
    go_quiet (fail)
    go_wp2
    go_ret
    exact ⟨by rw [HF.out]; rfl, below_drewN (below_drewN bW _) _⟩
   ·
    have hxf : eqH x h = false := by simpa using hxh
    have HN : Hid (signed (t.take (k + 1)) h = false) := by show _ = _; rw [signed_snoc hx0, HK.out, hxf]; rfl
    simp only [hxf] at eq2
    clear hx0 HK eq1 hxh hxf
    go_wp2
    go_quiet (fail)
    go_wp2
    go_roundw
    case rel => exact ⟨k + 1, n + nq, by omega, by go_num, HN, rfl⟩
    case measure => simp [intOf]; omega
  ·
   have HF : Hid (S = false) := by
    show _ = _
    have h1 := HK.out
    rw [List.take_of_length_le (by omega)] at h1
    rw [← HSS.out, h1]
   clear HK
   go_wp2
   go_ret
   exact ⟨by rw [HF.out]; rfl, below_drewN bW n⟩
set_option maxRecDepth 1000000 in
set_option maxHeartbeats 1000000 in
theorem eq_heads (w : World) (v1 v2 : Value) (l : List Hd) (h1 : Sh w v1 l) (h2 : Sh w v2 l) (hx : l.length ≤ 1000000000000) :
  Calls Tryz.prog 36 #[v1, v2] w fun e w' => e = .returned (.bool true) ∧ Below w.heap.size w w' := by
 have HS1 : Hid (Sh w v1 l) := h1
 have HS2 : Hid (Sh w v2 l) := h2
 obtain ⟨ao, cap, rfl, hcap⟩ := Sh.form h1
 obtain ⟨ao2, cap2, rfl, hcap2⟩ := Sh.form h2
 have n1 : ((l.length : Int) != (l.length : Int)) = false := by simp
 go_enter Tryz.func36, Tryz.ntmps36
 go_wp2
 go_loopw [5] (fun i wr => ∃ k : Nat, k ≤ l.length ∧ i = .int .i64 (k : Int) ∧ Below w.heap.size w wr) (fun i _ => l.length - (intOf i).toNat)
 case atStart => exact ⟨0, Nat.zero_le _, rfl, Below.refl _ _⟩
 case round =>
  obtain ⟨k, hk, rfl, hB⟩ := hrel
  by_cases hlt : k < l.length
  ·
   obtain ⟨x, hn⟩ : ∃ n, l[k]? = some n := ⟨l[k], by simp [hlt]⟩
   obtain ⟨b, off, cap', he, _, c0, c1⟩ := Sh.at (HS1.out.later hB) hn
   simp only [Value.slice.injEq] at he
   obtain ⟨rfl, _, rfl⟩ := he
   obtain ⟨b2, off2, cap2', he2, _, e0, e1⟩ := Sh.at (HS2.out.later hB) hn
   simp only [Value.slice.injEq] at he2
   obtain ⟨rfl, _, rfl⟩ := he2
   have q : ∀ W, _ := fun W => eq_head W x
   clear hn n1
   go_wp2_with fail
   refine wp_region_held_drew (S := fun w' => w'.cell? ⟨b, off + k * 2, none⟩ = some (.int .i64 x.n) ∧ w'.cell? ⟨b, off + k * 2 + 1, none⟩ = some (.string x.r) ∧ w'.cell? ⟨b2, off2 + k * 2, none⟩ = some (.int .i64 x.n) ∧ w'.cell? ⟨b2, off2 + k * 2 + 1, none⟩ = some (.string x.r)) (by kernel_rfl) ⟨c0, c1, e0, e1⟩ (fun hHeld => ?_)
   refine Ke.y 0 rfl (fun _ _ _ h => h) ?_
   try simp only [Act.put, pu1, pu2, pu3, pu4, pu5, pu6]
   refine Ke.y 1 rfl (fun _ _ _ h => h) ?_
   try simp only [Act.put, pu1, pu2, pu3, pu4, pu5, pu6]
   refine Ke.y 2 rfl (fun _ _ _ h => h) ?_
   try simp only [Act.put, pu1, pu2, pu3, pu4, pu5, pu6]
   refine Ke.y 3 rfl (fun _ _ _ h => h) ?_
   try simp only [Act.put, pu1, pu2, pu3, pu4, pu5, pu6]
   refine Ke.y 4 rfl (fun _ _ _ h => h) ?_
   try simp only [Act.put, pu1, pu2, pu3, pu4, pu5, pu6]
   refine Ke.y 5 rfl (fun _ _ _ h => h) ?_
   try simp only [Act.put, pu1, pu2, pu3, pu4, pu5, pu6]
   refine Ke.y 6 rfl (fun _ _ _ h => h) ?_
   try simp only [Act.put, pu1, pu2, pu3, pu4, pu5, pu6]
   refine Ke.y 7 rfl (fun _ _ _ h => h) ?_
   try simp only [Act.put, pu1, pu2, pu3, pu4, pu5, pu6]
   refine wpAnyH_ready (rs := [8]) (by kernel_rfl) (by simp) ?_
   refine AllReadyH.cons rfl (fun K hK => ?_) AllReadyH.nil
   go_simp
   refine (q _).mono ?_
   rintro e w4 ⟨rfl, b4⟩
   refine hK.out _ _ ⟨keepH hHeld.1 b4, keepH hHeld.2.1 b4, keepH hHeld.2.2.1 b4, keepH hHeld.2.2.2 b4⟩ (fun hHeld => ?_)
   clear hK K
   try simp only [Act.put, pu1, pu2, pu3, pu4, pu5, pu6]
   refine Ke.y 9 rfl (fun _ _ _ h => h) ?_
   try simp only [Act.put, pu1, pu2, pu3, pu4, pu5, pu6]
   refine wpAnyH_done (by kernel_rfl) ?_ _
   clear hHeld
   have B4 : Below w.heap.size w w4 := (Below.drew hB).trans (b4.mono hB.size)
   clear c0 c1 e0 e1 q b4
   go_wp2
   go_roundw
   case rel => exact ⟨k + 1, by omega, by go_num, B4⟩
   case measure => simp [intOf]; omega
  ·
   go_wp2
   go_ret
   exact ⟨rfl, hB⟩
set_option maxRecDepth 1000000 in
set_option maxHeartbeats 1000000 in
theorem headOf_spec (w : World) (v : Value) (l : List ByteArray) (h : Sl w v (ss l)) (hl : l.length ≤ 1000000000000) (hz : ∀ s ∈ l, s.size ≤ 10000000000) :
  Calls Tryz.prog 40 #[v] w fun e w' => e = .returned (.agg #[.int .i64 (headOf l).n, .string (headOf l).r]) ∧ Below w.heap.size w w' := by
 have HR : Hid ((w.alloc (.cells #[.int .i64 0, .string ⟨#[]⟩] 26)).heap[w.heap.size]? = some (.cells (hc hd0) 26 (0, 0))) := heap_alloc_new w _
 have HB : Hid (Below w.heap.size w (w.alloc (.cells #[.int .i64 0, .string ⟨#[]⟩] 26))) := (Below.refl _ _).alloc (Nat.le_refl _) _
 by_cases h2 : l.length ≤ 200
 ·
  have q := root_any l.length l (Nat.le_refl _) (w.alloc (.cells #[.int .i64 0, .string ⟨#[]⟩] 26)) v (h.later HB.out) (by omega) hz
  obtain ⟨M, hM⟩ : ∃ M, headOf l = M := ⟨_, rfl⟩
  have hM2 : M = ⟨l.length, root l⟩ := by rw [← hM]; unfold headOf; rw [if_pos h2]
  obtain ⟨ao, cap, rfl, hcap, _⟩ := h
  have d2 : ¬ (200 : Int) < (l.length : Int) := by omega
  obtain ⟨x, hx⟩ : ∃ x, root l = x := ⟨_, rfl⟩
  rw [hx] at q hM2
  rw [hM, hM2]
  rw [ss_len] at *
  clear hx hM hM2 hz
  go_enter Tryz.func40, Tryz.ntmps40
  go_wp2_with fail
  refine q.mono ?_
  rintro e w1 ⟨rfl, b1⟩
  have R1 := rowKeep HR.out b1
  have B1 : Below w.heap.size w w1 := HB.out.trans (b1.mono HB.out.size)
  clear q HR b1
  go_wp2_with (refine wpList_store_row rfl 26 _ _ rfl w.heap.size (hc (⟨(l.length : Int), x⟩ : Hd)) rfl rfl 26 _ R1 (sizeH (⟨(l.length : Int), x⟩ : Hd)) rfl (oneH (⟨(l.length : Int), x⟩ : Hd)) ?_)
  exact bodyPost_ret (v := .agg (hc ⟨(l.length : Int), x⟩)) (results_cell_row rfl _ _ w.heap.size 26 _ (0, 0) _ rfl (setRow_heap _ _ _ _ _ (0, 0) R1) Tryz.underlying26 rfl (sizeH _)) rfl ⟨rfl, below_setRow B1 (Nat.le_refl _) _⟩
 ·
  have d2 : (200 : Int) < (l.length : Int) := by omega
  have hM : headOf l = hd0 := by unfold headOf; rw [if_neg h2]
  rw [hM]
  obtain ⟨ao, cap, rfl, hcap, _⟩ := h
  rw [ss_len]
  clear hz hM
  go_enter Tryz.func40, Tryz.ntmps40
  go_wp2_with (refine wpList_store_row rfl 26 _ _ rfl w.heap.size (hc hd0) rfl rfl 26 _ HR.out (sizeH hd0) rfl (oneH hd0) ?_)
  exact bodyPost_ret (v := .agg (hc hd0)) (results_cell_row rfl _ _ w.heap.size 26 _ (0, 0) _ rfl (setRow_heap _ _ _ _ _ (0, 0) HR.out) Tryz.underlying26 rfl (sizeH hd0)) rfl ⟨rfl, below_setRow HB.out (Nat.le_refl _) _⟩
end Go.Proofs.YtchonoonclllbaaGreatDoor.He
namespace Go.Proofs.YtchonoonclllbaaGreatDoor.Sr
open Go.RowKit Go.Proofs.YtchonoonclllbaaGreatDoor.Mem Go.Proofs.YtchonoonclllbaaGreatDoor.Laws Go.Proofs.YtchonoonclllbaaGreatDoor.Sha Go.Proofs.YtchonoonclllbaaGreatDoor.Tr Go.Proofs.YtchonoonclllbaaGreatDoor.He
set_option linter.unusedVariables false
set_option linter.unusedSimpArgs false
def body (h : Hd) (x : List ByteArray) : List Int := Puts.num h.n ++ Puts.tx h.r ++ (Puts.num (x.length : Int) ++ Puts.txs x)
def sum4 (b : List Int) : List Int := (digest b).take 4
def put (h : Hd) (x : List ByteArray) : List Int := Puts.num ((body h x).length : Int) ++ (body h x ++ sum4 (body h x))
theorem sum4_len (b : List Int) : (sum4 b).length = 4 := by unfold sum4; rw [List.length_take, digest_len]; rfl
theorem put_pos (h : Hd) (x : List ByteArray) : 5 ≤ (put h x).length := by
 have h3 := (Puts.num_len ((body h x).length : Int)).1
 have h4 := sum4_len (body h x)
 unfold put
 simp only [List.length_append]
 omega
def no12 (a : Int) : Hd × List ByteArray × Int × Bool := (hd0, [], a, false)
def inBody (b : List Int) : Option (Hd × List ByteArray) :=
 if (Plain.getNum b 0).2.2 = true ∧ (Plain.getText b (Plain.getNum b 0).2.1).2.2 = true ∧ (Plain.getTexts b (Plain.getText b (Plain.getNum b 0).2.1).2.1).2.2 = true ∧
   (Plain.getTexts b (Plain.getText b (Plain.getNum b 0).2.1).2.1).2.1 = (b.length : Int) ∧ okH ⟨(Plain.getNum b 0).1, (Plain.getText b (Plain.getNum b 0).2.1).1⟩ = true ∧
   ¬ (Plain.getTexts b (Plain.getText b (Plain.getNum b 0).2.1).2.1).1.length = 0
 then some (⟨(Plain.getNum b 0).1, (Plain.getText b (Plain.getNum b 0).2.1).1⟩, (Plain.getTexts b (Plain.getText b (Plain.getNum b 0).2.1).2.1).1)
 else none
def getC (xs : List Int) (a : Int) : Hd × List ByteArray × Int × Bool :=
 if (Plain.getNum xs a).2.2 = true ∧ (Plain.getNum xs a).1 ≤ (xs.length : Int) - (Plain.getNum xs a).2.1 - 4 then
  match inBody ((xs.drop (Plain.getNum xs a).2.1.toNat).take (Plain.getNum xs a).1.toNat) with
  | some (h, x) =>
   if (xs.drop ((Plain.getNum xs a).2.1.toNat + (Plain.getNum xs a).1.toNat)).take 4 = sum4 ((xs.drop (Plain.getNum xs a).2.1.toNat).take (Plain.getNum xs a).1.toNat) then
    (h, x, (Plain.getNum xs a).2.1 + (Plain.getNum xs a).1 + 4, true)
   else no12 a
  | none => no12 a
 else no12 a
theorem size_txs {t : ByteArray} : ∀ l : List ByteArray, t ∈ l → t.size ≤ (Puts.txs l).length := by
 intro l
 induction l with
 | nil => intro h; cases h
 | cons a r ih =>
  intro h
  simp only [Puts.txs, List.length_append]
  rcases List.mem_cons.1 h with rfl | h
  ·
   have : (Puts.tx t).length = (Puts.num (t.size : Int)).length + t.size := by unfold Puts.tx; rw [List.length_append, sb_len]
   omega
  ·
   have := ih h; omega
theorem body_inBody {b : List Int} {h : Hd} {x : List ByteArray} (hb : Byt b) (hi : inBody b = some (h, x)) : b = body h x ∧ okH h = true ∧ 1 ≤ x.length ∧ x.length ≤ 200 ∧ ∀ s ∈ x, s.size ≤ b.length := by
 unfold inBody at hi
 split at hi
 ·
  rename_i hc
  simp only [Option.some.injEq, Prod.mk.injEq] at hi
  obtain ⟨n, p, ok, hg⟩ : ∃ n p ok, Plain.getNum b 0 = (n, p, ok) := ⟨_, _, _, rfl⟩
  rw [hg] at hi hc
  simp only at hi hc
  obtain ⟨r, q, ok2, hg2⟩ : ∃ r q ok, Plain.getText b p = (r, q, ok) := ⟨_, _, _, rfl⟩
  rw [hg2] at hi hc
  simp only at hi hc
  obtain ⟨l, s, ok3, hg3⟩ : ∃ l s ok, Plain.getTexts b q = (l, s, ok) := ⟨_, _, _, rfl⟩
  have hlen := Plain.getTexts_len b q
  rw [hg3] at hi hc hlen
  simp only at hi hc hlen
  obtain ⟨rfl, rfl, rfl, hs, hk, hl⟩ := hc
  obtain ⟨rfl, rfl⟩ := hi
  obtain ⟨p', rfl, _, hn9, _, hd⟩ := Can.getNum_canon (a := 0) hb hg
  obtain ⟨q', rfl, _, hd2⟩ := Can.getText_canon hb hg2
  obtain ⟨s', hs', hd3⟩ := Can.getTexts_canon hb hg3
  have es : s' = b.length := by omega
  rw [es, List.drop_of_length_le (Nat.le_refl _), List.append_nil] at hd3
  rw [List.drop_zero] at hd
  have eb : b = body ⟨n, r⟩ l := by
   conv => lhs; rw [hd, hd2, hd3]
   unfold body
   simp only [List.append_assoc]
  refine ⟨eb, hk, by omega, hlen, ?_⟩
  intro t ht
  have h5 := size_txs l ht
  rw [eb]
  unfold body
  simp only [List.length_append]
  omega
 ·
  cases hi
theorem size_body {h : Hd} {x : List ByteArray} {t : ByteArray} (ht : t ∈ x) : t.size ≤ (body h x).length := by
 have := size_txs x ht
 unfold body
 simp only [List.length_append]
 omega
theorem put_get {xs : List Int} {a : Nat} {h : Hd} {x : List ByteArray} {p : Int} (hb : Byt xs) (hg : getC xs (a : Int) = (h, x, p, true)) :
  ∃ q : Nat, p = (q : Int) ∧ q = a + (put h x).length ∧ q ≤ xs.length ∧ okH h = true ∧ 1 ≤ x.length ∧ x.length ≤ 200 ∧ (body h x).length ≤ 1000000000 ∧ xs.drop a = put h x ++ xs.drop q := by
 unfold getC at hg
 split at hg
 ·
  rename_i hc
  obtain ⟨n, p', ok, hn⟩ : ∃ n p ok, Plain.getNum xs (a : Int) = (n, p, ok) := ⟨_, _, _, rfl⟩
  rw [hn] at hg hc
  simp only at hg hc
  obtain ⟨rfl, hc⟩ := hc
  obtain ⟨q', rfl, hn0, hn9, ha, hd⟩ := Can.getNum_canon hb hn
  obtain ⟨m, rfl⟩ : ∃ m : Nat, n = (m : Int) := ⟨n.toNat, by omega⟩
  simp only [Int.toNat_natCast] at hg
  split at hg
  ·
   rename_i h' x' hi
   split at hg
   ·
    rename_i h4
    simp only [Prod.mk.injEq, and_true] at hg
    obtain ⟨rfl, rfl, rfl⟩ := hg
    obtain ⟨hbd, hk, h1, h2, hs⟩ := body_inBody (fun y hy => hb y (List.mem_of_mem_drop (List.mem_of_mem_take hy))) hi
    have hbl : ((xs.drop q').take m).length = m := by rw [List.length_take, List.length_drop]; omega
    have hd2 : xs.drop a = put h' x' ++ xs.drop (q' + m + 4) := by
     rw [hd]
     unfold put
     rw [← hbd, hbl, ← h4, List.append_assoc, List.append_assoc]
     congr 1
     rw [← List.drop_drop (i := 4), List.take_append_drop, ← List.drop_drop, List.take_append_drop]
    have hl := congrArg List.length hd2
    simp only [List.length_append, List.length_drop] at hl
    refine ⟨q' + m + 4, by omega, by omega, by omega, hk, h1, h2, by rw [← hbd, hbl]; omega, hd2⟩
   ·
    simp [no12] at hg
  ·
   simp [no12] at hg
 ·
  simp [no12] at hg
theorem getC_no {xs : List Int} {a : Int} (h : (getC xs a).2.2.2 = false) : getC xs a = no12 a := by
 unfold getC at h ⊢
 split at h
 ·
  rename_i hc
  rw [if_pos hc]
  split at h
  ·
   rename_i h' x' hi
   split at h
   ·
    cases h
   ·
    rename_i h4
    rw [if_neg h4]
  ·
   rfl
 ·
  rename_i hc
  rw [if_neg hc]
end Go.Proofs.YtchonoonclllbaaGreatDoor.Sr
namespace Go.Proofs.YtchonoonclllbaaGreatDoor.Lg
open Go.RowKit Go.Proofs.YtchonoonclllbaaGreatDoor.Mem Go.Proofs.YtchonoonclllbaaGreatDoor.Laws Go.Proofs.YtchonoonclllbaaGreatDoor.Bytes Go.Proofs.YtchonoonclllbaaGreatDoor.Sha Go.Proofs.YtchonoonclllbaaGreatDoor.Tr Go.Proofs.YtchonoonclllbaaGreatDoor.He
set_option linter.unusedVariables false
set_option linter.unusedSimpArgs false
def lc (v : Value) (h : Hd) : Array Value := #[v, .int .i64 h.n, .string h.r]
theorem sizeL (v : Value) (h : Hd) : (Tryz.prog.info? 28).map (·.size) = some (lc v h).size := by
 show _ = some 3
 kernel_rfl
theorem oneL {v : Value} (h : Hd) (hv : v.oneCell' = true) : (lc v h).all (·.oneCell') = true := by
 simp [lc, Value.oneCell']
 exact hv
def logOk (l : List ByteArray) (h : Hd) : Bool := decide (l.length ≤ 200) && eqH h (headOf l)
theorem logOk_yes {l : List ByteArray} {h : Hd} (hk : logOk l h = true) : l.length ≤ 200 ∧ h = headOf l := by
 unfold logOk at hk
 simp only [Bool.and_eq_true, decide_eq_true_eq] at hk
 exact ⟨hk.1, (eqH_iff _ _).1 hk.2⟩
set_option maxRecDepth 1000000 in
set_option maxHeartbeats 1000000 in
theorem lognew_spec (w : World) : Calls Tryz.prog 138 #[] w fun e w' => e = .returned (.agg #[.slice none 0 0, .int .i64 (headOf []).n, .string (headOf []).r]) ∧ Below w.heap.size w w' := by
 obtain ⟨W, hW⟩ : ∃ W, W = (w.alloc (.cells (lc (.slice none 0 0) hd0) 28)).alloc (.cells #[] 9) := ⟨_, rfl⟩
 have HB : Hid (Below w.heap.size w W) := by
  show Below _ _ _
  rw [hW]
  exact ((Below.refl _ _).alloc (Nat.le_refl _) _).alloc (by simp) _
 have HR : Hid (W.heap[w.heap.size]? = some (.cells (lc (.slice none 0 0) hd0) 28 (0, 0))) := by show _ = _; rw [hW]; exact heap_alloc2_old w _ _
 have q : ∀ v, Sl W v (ss []) → _ := fun v hv => headOf_spec W v [] hv (by simp) (by simp)
 have q1 := q (.slice (some ⟨w.heap.size + 1, 0, none⟩) 0 0) (by
  have h := (emptyT (w.alloc (.cells (lc (.slice none 0 0) hd0) 28)) 0 (Nat.zero_le _)).sl
  rw [hW]
  simpa using h)
 obtain ⟨M, hM⟩ : ∃ M, headOf [] = M := ⟨_, rfl⟩
 rw [hM] at q1 ⊢
 rw [hW] at q1
 have HW : Hid (W = _) := hW
 clear hW hM q
 unfold lc hd0 at q1
 go_enter Tryz.func138, Tryz.ntmps138
 go_wp2_with fail
 refine q1.mono ?_
 rintro e w1 ⟨rfl, b1⟩
 have hW := HW.out
 unfold lc hd0 at hW
 rw [← hW] at b1
 have R1 := rowKeep HR.out b1
 have B1 : Below w.heap.size w w1 := HB.out.trans (b1.mono HB.out.size)
 clear q1 HW hW b1 HR HB
 go_wp2_with (refine wpList_store_row rfl 28 _ _ rfl w.heap.size (lc (.slice none 0 0) M) rfl rfl 28 _ R1 (sizeL _ _) rfl (oneL _ rfl) ?_)
 exact bodyPost_ret (v := .agg (lc (.slice none 0 0) M)) (results_cell_row rfl _ _ w.heap.size 28 _ (0, 0) _ rfl (setRow_heap _ _ _ _ _ (0, 0) R1) Tryz.underlying28 rfl (sizeL _ _)) rfl ⟨rfl, below_setRow B1 (Nat.le_refl _) _⟩
set_option maxRecDepth 1000000 in
set_option maxHeartbeats 2000000 in
theorem logok_spec (w : World) (v : Value) (l : List ByteArray) (h : Hd) (hs : Sl w v (ss l)) (hl : l.length ≤ 1000000000000) (hz : ∀ s ∈ l, s.size ≤ 10000000000) :
  Calls Tryz.prog 94 #[.agg #[v, .int .i64 h.n, .string h.r]] w fun e w' => e = .returned (.bool (logOk l h)) ∧ Below w.heap.size w w' := by
 have hs0 := hs
 obtain ⟨ao, cap, rfl, hcap⟩ := hs.form
 rw [ss_len] at *
 obtain ⟨W, hW, r0, HB⟩ : ∃ W, Hid (w.alloc (.cells #[.slice ao l.length cap, .int .i64 h.n, .string h.r] 28) = W) ∧ W.heap[w.heap.size]? = some (.cells (lc (.slice ao l.length cap) h) 28 (0, 0)) ∧ Hid (Below w.heap.size w W) := ⟨_, rfl, heap_alloc_new w _, (Below.refl _ _).alloc (Nat.le_refl _) _⟩
 have c0 : W.cell? ⟨w.heap.size, 0, none⟩ = some (.slice ao l.length cap) := row_at r0 0
 have c1 : W.cell? ⟨w.heap.size, 1, none⟩ = some (.int .i64 h.n) := row_at r0 1
 have c2 : W.cell? ⟨w.heap.size, 2, none⟩ = some (.string h.r) := row_at r0 2
 have q := headOf_spec W.drew _ l (hs0.later (Below.drew HB.out)) hl hz
 have e1 : ∀ W', _ := fun W' => eqlH W' h (headOf l)
 have e2 : ∀ W' op x y xs ys, _ := fun W' op x y xs ys => grdH W' op x y xs ys
 have HN : Hid (logOk l h = (decide (l.length ≤ 200) && eqH h (headOf l))) := rfl
 obtain ⟨M, hM⟩ : ∃ M, headOf l = M := ⟨_, rfl⟩
 rw [hM] at q HN
 simp only [hM] at e1
 obtain ⟨B, hB⟩ : ∃ B, eqH h M = B := ⟨_, rfl⟩
 rw [hB] at HN
 simp only [hB] at e1
 obtain ⟨A, hA⟩ : ∃ A, logOk l h = A := ⟨_, rfl⟩
 rw [hA] at HN ⊢
 clear hM hB hA hs hs0 r0 hz
 by_cases h2 : l.length ≤ 200
 ·
  have d1 : decide ((l.length : Int) ≤ 200) = true := by simp; omega
  have HN2 : Hid (A = B) := by show _ = _; rw [HN.out]; simp [h2]
  clear HN
  go_enter Tryz.func94, Tryz.ntmps94
  go_wp2_with fail
  rw [hW.out]
  refine wp_region_held_drew (S := fun w' => w'.cell? ⟨w.heap.size, 0, none⟩ = some (.slice ao l.length cap) ∧ w'.cell? ⟨w.heap.size, 1, none⟩ = some (.int .i64 h.n) ∧ w'.cell? ⟨w.heap.size, 2, none⟩ = some (.string h.r)) (by kernel_rfl) ⟨c0, c1, c2⟩ (fun hHeld => ?_)
  refine Ke.y 0 rfl (fun _ _ _ h => h) ?_
  try simp only [Act.put, pu1, pu2, pu3, pu4, pu5, pu6]
  refine Ke.y 1 rfl (fun _ _ _ h => h) ?_
  try simp only [Act.put, pu1, pu2, pu3, pu4, pu5, pu6]
  refine Ke.y 2 rfl (fun _ _ _ h => h) ?_
  try simp only [Act.put, pu1, pu2, pu3, pu4, pu5, pu6]
  refine Ke.y 3 rfl (fun _ _ _ h => h) ?_
  try simp only [Act.put, pu1, pu2, pu3, pu4, pu5, pu6]
  refine Ke.y 4 rfl (fun _ _ _ h => h) ?_
  try simp only [Act.put, pu1, pu2, pu3, pu4, pu5, pu6]
  refine Ke.y 5 rfl (fun _ _ _ h => h) ?_
  try simp only [Act.put, pu1, pu2, pu3, pu4, pu5, pu6]
  refine Ke.y 6 rfl (fun _ _ _ h => h) ?_
  try simp only [Act.put, pu1, pu2, pu3, pu4, pu5, pu6]
  refine Ke.y 7 rfl (fun _ _ _ h => h) ?_
  try simp only [Act.put, pu1, pu2, pu3, pu4, pu5, pu6]
  refine Ke.y 8 rfl (fun _ _ _ h => h) ?_
  try simp only [Act.put, pu1, pu2, pu3, pu4, pu5, pu6]
  refine wpAnyH_ready (rs := [9]) (by kernel_rfl) (by simp) ?_
  refine AllReadyH.cons rfl (fun K hK => ?_) AllReadyH.nil
  go_simp
  refine (q).mono ?_
  rintro e w1 ⟨rfl, b1⟩
  refine hK.out _ _ ?_ (fun hHeld => ?_)
  ·
   exact ⟨keepR (W := W.drew) hHeld.1 b1, keepR (W := W.drew) hHeld.2.1 b1, keepR (W := W.drew) hHeld.2.2 b1⟩
  clear hK K
  try simp only [Act.put, pu1, pu2, pu3, pu4, pu5, pu6]
  refine Ke.y 10 rfl (fun _ _ _ h => h) ?_
  try simp only [Act.put, pu1, pu2, pu3, pu4, pu5, pu6]
  refine Ke.y 11 rfl (fun _ _ _ h => h) ?_
  try simp only [Act.put, pu1, pu2, pu3, pu4, pu5, pu6]
  refine Ke.y 12 rfl (fun _ _ _ h => h) ?_
  try simp only [Act.put, pu1, pu2, pu3, pu4, pu5, pu6]
  refine wpAnyH_done (by kernel_rfl) ?_ _
  clear hHeld
  go_wp2
  go_ret
  exact ⟨by rw [HN2.out]; rfl, (Below.drew HB.out).trans (b1.mono HB.out.size)⟩
 ·
  have d1 : decide ((l.length : Int) ≤ 200) = false := by simp; omega
  have HN2 : Hid (A = false) := by show _ = _; rw [HN.out]; simp [h2]
  clear HN q
  go_enter Tryz.func94, Tryz.ntmps94
  go_wp2_with fail
  rw [hW.out]
  refine wp_region_held_drew (S := fun w' => w'.cell? ⟨w.heap.size, 0, none⟩ = some (.slice ao l.length cap) ∧ w'.cell? ⟨w.heap.size, 1, none⟩ = some (.int .i64 h.n) ∧ w'.cell? ⟨w.heap.size, 2, none⟩ = some (.string h.r)) (by kernel_rfl) ⟨c0, c1, c2⟩ (fun hHeld => ?_)
  refine Ke.y 0 rfl (fun _ _ _ h => h) ?_
  try simp only [Act.put, pu1, pu2, pu3, pu4, pu5, pu6]
  refine Ke.y 1 rfl (fun _ _ _ h => h) ?_
  try simp only [Act.put, pu1, pu2, pu3, pu4, pu5, pu6]
  refine Ke.y 2 rfl (fun _ _ _ h => h) ?_
  try simp only [Act.put, pu1, pu2, pu3, pu4, pu5, pu6]
  refine Ke.y 3 rfl (fun _ _ _ h => h) ?_
  try simp only [Act.put, pu1, pu2, pu3, pu4, pu5, pu6]
  refine Ke.y 4 rfl (fun _ _ _ h => h) ?_
  try simp only [Act.put, pu1, pu2, pu3, pu4, pu5, pu6]
  refine Ke.x 5 rfl (fun _ _ _ h => h) ?_
  try simp only [Act.put, pu1, pu2, pu3, pu4, pu5, pu6]
  refine Ke.x 6 rfl (fun _ _ _ h => h) ?_
  try simp only [Act.put, pu1, pu2, pu3, pu4, pu5, pu6]
  refine Ke.x 7 rfl (fun _ _ _ h => h) ?_
  try simp only [Act.put, pu1, pu2, pu3, pu4, pu5, pu6]
  refine Ke.x 8 rfl (fun _ _ _ h => h) ?_
  try simp only [Act.put, pu1, pu2, pu3, pu4, pu5, pu6]
  refine Ke.x 9 rfl (fun _ _ _ h => h) ?_
  try simp only [Act.put, pu1, pu2, pu3, pu4, pu5, pu6]
  refine Ke.x 10 rfl (fun _ _ _ h => h) ?_
  try simp only [Act.put, pu1, pu2, pu3, pu4, pu5, pu6]
  refine Ke.y 11 rfl (fun _ _ _ h => h) ?_
  try simp only [Act.put, pu1, pu2, pu3, pu4, pu5, pu6]
  refine Ke.y 12 rfl (fun _ _ _ h => h) ?_
  try simp only [Act.put, pu1, pu2, pu3, pu4, pu5, pu6]
  refine wpAnyH_done (by kernel_rfl) ?_ _
  clear hHeld
  go_wp2
  go_ret
  exact ⟨by rw [HN2.out]; rfl, Below.drew HB.out⟩
def extend (l : List ByteArray) (hd : Hd) (t : List Hd) (h : Hd) (x : List ByteArray) : List ByteArray × Hd × Int :=
 if logOk l hd = true ∧ okH h = true ∧ h.n = ((l ++ x).length : Int) then
  if signed t h = true then
   if x.length = 0 then (l, hd, 3) else if eqH h (headOf (l ++ x)) = true then (l ++ x, h, 0) else (l, hd, 4)
  else (l, hd, 2)
 else (l, hd, 1)
theorem size_app {l x : List ByteArray} {N : Nat} (h1 : ∀ s ∈ l, s.size ≤ N) (h2 : ∀ s ∈ x, s.size ≤ N) : ∀ s ∈ l ++ x, s.size ≤ N := by
 intro s hs
 rcases List.mem_append.1 hs with h | h
 ·
  exact h1 s h
 ·
  exact h2 s h
end Go.Proofs.YtchonoonclllbaaGreatDoor.Lg
namespace Go.Proofs.YtchonoonclllbaaGreatDoor.Sr
open Go.RowKit Go.Proofs.YtchonoonclllbaaGreatDoor.Mem Go.Proofs.YtchonoonclllbaaGreatDoor.Laws Go.Proofs.YtchonoonclllbaaGreatDoor.Sha Go.Proofs.YtchonoonclllbaaGreatDoor.Tr Go.Proofs.YtchonoonclllbaaGreatDoor.He Go.Proofs.YtchonoonclllbaaGreatDoor.Lg
set_option linter.unusedVariables false
set_option linter.unusedSimpArgs false
structure Sto where
 l : List ByteArray
 h : Hd
 b : List Int
 s : Int
def replayF : Nat → List Int → Nat → List ByteArray → Hd → List ByteArray × Hd × Bool
 | 0, _, _, l, hd => (l, hd, true)
 | f + 1, xs, a, l, hd =>
  if a < xs.length then
   if (getC xs (a : Int)).2.2.2 = true ∧ l.length + (getC xs (a : Int)).2.1.length ≤ 200 then
    if eqH (getC xs (a : Int)).1 (headOf (l ++ (getC xs (a : Int)).2.1)) = true then
     replayF f xs (getC xs (a : Int)).2.2.1.toNat (l ++ (getC xs (a : Int)).2.1) (getC xs (a : Int)).1
    else (l ++ (getC xs (a : Int)).2.1, (getC xs (a : Int)).1, false)
   else (l, hd, false)
  else (l, hd, true)
def replay (xs : List Int) : List ByteArray × Hd × Bool := replayF xs.length xs 0 [] (headOf [])
def storeOk (st : Sto) : Bool := logOk st.l st.h && decide (st.b.length ≤ 60000) && decide (0 ≤ st.s ∧ st.s ≤ (st.b.length : Int)) && (replay st.b).2.2 && decide ((replay st.b).1 = st.l)
def commit1 (st : Sto) (t : List Hd) (h : Hd) (x : List ByteArray) : Sto × Int :=
 if (extend st.l st.h t h x).2.2 = 0 then (⟨(extend st.l st.h t h x).1, (extend st.l st.h t h x).2.1, st.b ++ put h x, st.s⟩, 0) else (st, (extend st.l st.h t h x).2.2)
def commit (st : Sto) (t : List Hd) (h : Hd) (x : List ByteArray) : Sto × Int :=
 if storeOk st = true ∧ st.b.length + (put h x).length ≤ 60000 then commit1 st t h x else (st, 1)
theorem ok_parts {st : Sto} (h : storeOk st = true) : logOk st.l st.h = true ∧ st.b.length ≤ 60000 ∧ 0 ≤ st.s ∧ st.s ≤ (st.b.length : Int) ∧ (replay st.b).2.2 = true ∧ (replay st.b).1 = st.l := by
 unfold storeOk at h
 simp only [Bool.and_eq_true, decide_eq_true_eq] at h
 obtain ⟨⟨⟨⟨a, b⟩, c⟩, d⟩, e⟩ := h
 exact ⟨a, b, c.1, c.2, d, e⟩
end Go.Proofs.YtchonoonclllbaaGreatDoor.Sr
namespace Go.Proofs.YtchonoonclllbaaGreatDoor.Mg
open Go.RowKit Go.Proofs.YtchonoonclllbaaGreatDoor.Mem Go.Proofs.YtchonoonclllbaaGreatDoor.Laws Go.Proofs.YtchonoonclllbaaGreatDoor.Sha Go.Proofs.YtchonoonclllbaaGreatDoor.Tr Go.Proofs.YtchonoonclllbaaGreatDoor.He
set_option linter.unusedVariables false
set_option linter.unusedSimpArgs false
structure Ms where
  k : Int
  f : Int
  t : Int
  h : Hd
  n : Int
  x : List ByteArray
def place (xs : List Int) : Ms × Bool :=
  (⟨(Plain.getNum xs 0).1, (Plain.getNum xs (Plain.getNum xs 0).2.1).1, (Plain.getNum xs (Plain.getNum xs (Plain.getNum xs 0).2.1).2.1).1,
    ⟨(Plain.getNum xs (Plain.getNum xs (Plain.getNum xs (Plain.getNum xs 0).2.1).2.1).2.1).1, (Plain.getText xs (Plain.getNum xs (Plain.getNum xs (Plain.getNum xs (Plain.getNum xs 0).2.1).2.1).2.1).2.1).1⟩,
    (Plain.getNum xs (Plain.getText xs (Plain.getNum xs (Plain.getNum xs (Plain.getNum xs (Plain.getNum xs 0).2.1).2.1).2.1).2.1).2.1).1,
    (Plain.getTexts xs (Plain.getNum xs (Plain.getText xs (Plain.getNum xs (Plain.getNum xs (Plain.getNum xs (Plain.getNum xs 0).2.1).2.1).2.1).2.1).2.1).2.1).1⟩,
   (Plain.getNum xs 0).2.2 && (Plain.getNum xs (Plain.getNum xs 0).2.1).2.2 && (Plain.getNum xs (Plain.getNum xs (Plain.getNum xs 0).2.1).2.1).2.2 &&
    (Plain.getNum xs (Plain.getNum xs (Plain.getNum xs (Plain.getNum xs 0).2.1).2.1).2.1).2.2 && (Plain.getText xs (Plain.getNum xs (Plain.getNum xs (Plain.getNum xs (Plain.getNum xs 0).2.1).2.1).2.1).2.1).2.2 &&
    (Plain.getNum xs (Plain.getText xs (Plain.getNum xs (Plain.getNum xs (Plain.getNum xs (Plain.getNum xs 0).2.1).2.1).2.1).2.1).2.1).2.2 &&
    (Plain.getTexts xs (Plain.getNum xs (Plain.getText xs (Plain.getNum xs (Plain.getNum xs (Plain.getNum xs (Plain.getNum xs 0).2.1).2.1).2.1).2.1).2.1).2.1).2.2 &&
    decide ((Plain.getTexts xs (Plain.getNum xs (Plain.getText xs (Plain.getNum xs (Plain.getNum xs (Plain.getNum xs (Plain.getNum xs 0).2.1).2.1).2.1).2.1).2.1).2.1).2.1 = (xs.length : Int)))
end Go.Proofs.YtchonoonclllbaaGreatDoor.Mg
