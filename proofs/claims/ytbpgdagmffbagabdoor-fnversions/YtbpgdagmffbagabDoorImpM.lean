/- Chapter 3, the landed code: a version that is read of a text. -/
import Derived.Test.YtbpgdagmffbagabDoorImpJ
import Derived.Test.YtbpgdagmffbagabDoorImpK
import Derived.Laws.Rows
namespace Go.Proofs.YtbpgdagmffbagabDoor.Ver
open Go.RowKit Go.Proofs.YtbpgdagmffbagabDoor.Mem Go.Proofs.YtbpgdagmffbagabDoor.Laws Go.Proofs.YtbpgdagmffbagabDoor.Bytes Go.Proofs.YtbpgdagmffbagabDoor.Sha
set_option linter.unusedVariables false
set_option linter.unusedSimpArgs false

/-- three numbers and what stands behind them, if they are a right version's -/
def read3 (T : List ByteArray) (pr : ByteArray) : Option (Int × Int × Int × ByteArray) := match T with
  | [x, y, z] => if (upTo (sb x) 1000000).2 = true ∧ (upTo (sb y) 1000000).2 = true ∧ (upTo (sb z) 1000000).2 = true ∧ okV (upTo (sb x) 1000000).1 (upTo (sb y) 1000000).1 (upTo (sb z) 1000000).1 pr = true
      then some ((upTo (sb x) 1000000).1, (upTo (sb y) 1000000).1, (upTo (sb z) 1000000).1, pr) else none
  | _ => none
def readI (s : ByteArray) : Option (Int × Int × Int × ByteArray) :=
  if vAt s = true ∧ ¬ (0 ≤ dash (vOff s) ∧ (cut (vOff s)).2.size = 0) then read3 (splitT 46 (cut (vOff s)).1) (cut (vOff s)).2 else none
def ifaceQ : Option (Int × Int × Int × ByteArray) → Value
  | none => .nilIface
  | some q => .iface 25 (verQ q)

theorem read3_no {T : List ByteArray} (pr : ByteArray) (h : T.length ≠ 3) : read3 T pr = none := by
  match T, h with
  | [], _ => rfl
  | [_], _ => rfl
  | [_, _], _ => rfl
  | [_, _, _], h => exact absurd rfl h
  | _ :: _ :: _ :: _ :: _, _ => rfl
theorem read3_three (x y z pr : ByteArray) : read3 [x, y, z] pr = if (upTo (sb x) 1000000).2 = true ∧ (upTo (sb y) 1000000).2 = true ∧ (upTo (sb z) 1000000).2 = true ∧ okV (upTo (sb x) 1000000).1 (upTo (sb y) 1000000).1 (upTo (sb z) 1000000).1 pr = true
      then some ((upTo (sb x) 1000000).1, (upTo (sb y) 1000000).1, (upTo (sb z) 1000000).1, pr) else none := rfl
theorem three {T : List ByteArray} (h : T.length = 3) : ∃ x y z, T = [x, y, z] := by
  match T, h with
  | [x, y, z], _ => exact ⟨x, y, z, rfl⟩

/-- three numbers as cells -/
def r3 (x y z : Int) : Array Value := #[.int .i64 x, .int .i64 y, .int .i64 z]
def R3 (w : World) (g : Nat) (x y z : Int) : Prop := w.heap[g]? = some (.cells (r3 x y z) 55 (0, 0))
theorem R3.lt {w : World} {g : Nat} {x y z : Int} (h : R3 w g x y z) : g < w.heap.size := (Array.getElem?_eq_some_iff.1 h).1
theorem R3.same {w w' : World} {g : Nat} {x y z : Int} (h : R3 w g x y z) (hb : Below w.heap.size w w') : R3 w' g x y z := (hb.block g h.lt).trans h
theorem R3.cells {w : World} {g : Nat} {x y z : Int} (h : R3 w g x y z) : w.cell? ⟨g, 0, none⟩ = some (.int .i64 x) ∧ w.cell? ⟨g, 1, none⟩ = some (.int .i64 y) ∧ w.cell? ⟨g, 2, none⟩ = some (.int .i64 z) :=
  ⟨(cell_of_row w g 0 _ _ _ h).trans rfl, (cell_of_row w g 1 _ _ _ h).trans rfl, (cell_of_row w g 2 _ _ _ h).trans rfl⟩
theorem R3.frozen {w : World} {g : Nat} {x y z : Int} (h : R3 w g x y z) (i : Nat) : w.frozen? ⟨g, i, none⟩ = false := by
  have h' : w.heap[g]? = some (.cells (r3 x y z) 55 (0, 0)) := h
  simp [World.frozen?, h']
theorem R3.set {w : World} {g : Nat} {x y z : Int} (h : R3 w g x y z) (i : Nat) (v : Value) : (w.setCell ⟨g, i, none⟩ v).heap[g]? = some (.cells ((r3 x y z).setIfInBounds i v) 55 (0, 0)) := by
  have h' : w.heap[g]? = some (.cells (r3 x y z) 55 (0, 0)) := h
  simp [World.setCell, Array.getElem?_modify, h']

theorem R3.at {w : World} {g : Nat} {x y z : Int} (h : R3 w g x y z) {k : Nat} (hk : k < 3) : ∃ v, w.cell? ⟨g, k, none⟩ = some (.int .i64 v) := by
  obtain ⟨c0, c1, c2⟩ := h.cells
  match k, hk with
  | 0, _ => exact ⟨_, c0⟩
  | 1, _ => exact ⟨_, c1⟩
  | 2, _ => exact ⟨_, c2⟩
theorem R3.step {w : World} {g : Nat} {n1 n2 n3 n : Int} {k : Nat} (h : R3 w g (if 0 < k then n1 else 0) (if 1 < k then n2 else 0) (if 2 < k then n3 else 0)) (hk : k < 3) (hn : [n1, n2, n3][k]? = some n) :
    R3 (w.setCell ⟨g, k, none⟩ (.int .i64 n)) g (if 0 < k + 1 then n1 else 0) (if 1 < k + 1 then n2 else 0) (if 2 < k + 1 then n3 else 0) := by
  have hs := R3.set h k (.int .i64 n)
  match k, hk with
  | 0, _ => simp at hn; subst hn; exact hs
  | 1, _ => simp at hn; subst hn; exact hs
  | 2, _ => simp at hn; subst hn; exact hs

set_option maxRecDepth 1000000 in
set_option maxHeartbeats 4000000 in
theorem readv_impl (w : World) (s : ByteArray) (hs : s.size ≤ 1048576) :
    Calls Tryd.prog 19 #[.string s] w fun e w' => e = .returned (ifaceQ (readI s)) ∧ Below w.heap.size w w' := by
  have hrz : (vOff s).size ≤ s.size := by
    unfold vOff
    split
    · simp
    · exact Nat.le_refl _
  have hcz : (cut (vOff s)).1.size ≤ (vOff s).size ∧ (cut (vOff s)).2.size ≤ (vOff s).size := by
    unfold cut
    split
    · simp; omega
    · exact ⟨Nat.le_refl _, Nat.zero_le _⟩
  have HI : Hid (readI s = if vAt s = true ∧ ¬ (0 ≤ dash (vOff s) ∧ (cut (vOff s)).2.size = 0) then read3 (splitT 46 (cut (vOff s)).1) (cut (vOff s)).2 else none) := rfl
  have q1 := cutp_impl w s (by omega)
  have q2 := cut_impl w (vOff s) (by omega)
  obtain ⟨va, hva⟩ : ∃ x, vAt s = x := ⟨_, rfl⟩
  obtain ⟨rest, hrest⟩ : ∃ x, vOff s = x := ⟨_, rfl⟩
  rw [hva, hrest] at q1
  rw [hrest] at q2 hcz hrz
  rw [hva, hrest] at HI
  clear hva hrest
  obtain ⟨da, hda⟩ : ∃ x, decide (0 ≤ dash rest) = x := ⟨_, rfl⟩
  obtain ⟨fr, hfr⟩ : ∃ x, (cut rest).1 = x := ⟨_, rfl⟩
  obtain ⟨pr, hpr⟩ : ∃ x, (cut rest).2 = x := ⟨_, rfl⟩
  rw [hda, hfr, hpr] at q2
  rw [hfr, hpr] at HI hcz
  have HI2 : Hid (readI s = if va = true ∧ ¬ (da = true ∧ pr.size = 0) then read3 (splitT 46 fr) pr else none) := by
    show _ = _
    rw [HI.out, ← hda]
    simp
  clear hda hfr hpr HI
  have q3 := fun W => parts_impl W fr 46 (by omega) (by omega) (by omega)
  have hTs := splitT_size 46 fr
  have hTl := splitT_len 46 fr
  have hT0 : 0 < (splitT 46 fr).length := by
    unfold splitT
    rw [List.length_map]
    exact splitL_pos 46 (sb fr) []
  obtain ⟨T, hT⟩ : ∃ T, T = splitT 46 fr := ⟨_, rfl⟩
  rw [← hT] at q3 hTs hTl hT0 HI2
  clear hT
  obtain ⟨pe, hpe⟩ : ∃ x, pr.toList.isEmpty = x := ⟨_, rfl⟩
  have HP : Hid (decide (pr.size = 0) = pe) := by show _ = _; rw [← hpe, toList_empty]
  have hprz : pr.size ≤ 1048576 := by omega
  have hfrz : fr.size ≤ 1048576 := by omega
  have HTs : Hid (∀ t ∈ T, t.size ≤ fr.size) := hTs
  clear hTs hcz
  cases va
  · have HN : Hid (readI s = none) := by show _ = _; rw [HI2.out]; simp
    go_enter Tryd.func19, Tryd.ntmps19
    go_wp2_with fail
    refine q1.mono ?_
    rintro e w0 ⟨rfl, rfl⟩
    go_wp2_with fail
    refine q2.mono ?_
    rintro e w2 ⟨rfl, b2⟩
    go_wp2_with fail
    refine (q3 w2).mono ?_
    rintro e w3 ⟨v3, rfl, o3, b3⟩
    have hb3 : Below w0.heap.size w0 w3 := b2.trans (b3.mono b2.size)
    obtain ⟨ao3, cap3, hv3⟩ := o3.len
    subst hv3
    rw [ss_len]
    clear o3
    go_wp2
    go_ret
    exact ⟨by rw [HN.out]; rfl, hb3⟩
  · cases da
    · have HI3 : Hid (readI s = read3 T pr) := by show _ = _; rw [HI2.out]; simp
      by_cases h3 : T.length = 3
      · obtain ⟨x, y, z, rfl⟩ := three h3
        have hx := HTs.out x (by simp)
        have hy := HTs.out y (by simp)
        have hz := HTs.out z (by simp)
        go_enter Tryd.func19, Tryd.ntmps19
        go_wp2_with fail
        refine q1.mono ?_
        rintro e w0 ⟨rfl, rfl⟩
        go_wp2_with fail
        refine q2.mono ?_
        rintro e w2 ⟨rfl, b2⟩
        go_wp2_with fail
        refine (q3 w2).mono ?_
        rintro e w3 ⟨v3, rfl, o3, b3⟩
        have hb3 : Below w0.heap.size w0 w3 := b2.trans (b3.mono b2.size)
        obtain ⟨g, cap, rfl, hg1, hg2, hcap, hc⟩ := ownForm o3 (by simp [ss])
        have hl3 : (ss [x, y, z]).length = 3 := rfl
        rw [hl3] at hcap hc
        rw [hl3]
        obtain ⟨n1, o1, e1⟩ : ∃ a b, upTo (sb x) 1000000 = (a, b) := ⟨_, _, rfl⟩
        obtain ⟨n2, o2, e2⟩ : ∃ a b, upTo (sb y) 1000000 = (a, b) := ⟨_, _, rfl⟩
        obtain ⟨n3, o3', e3⟩ : ∃ a b, upTo (sb z) 1000000 = (a, b) := ⟨_, _, rfl⟩
        have HI4 : Hid (readI s = if o1 = true ∧ o2 = true ∧ o3' = true ∧ okV n1 n2 n3 pr = true then some (n1, n2, n3, pr) else none) := by
          show _ = _
          rw [HI3.out]
          rw [read3_three]
          rw [e1, e2, e3]
        have HQ : Hid (∀ (k : Nat) (t : ByteArray), [x, y, z][k]? = some t → ∃ n o, upTo (sb t) 1000000 = (n, o) ∧ [n1, n2, n3][k]? = some n ∧ [o1, o2, o3'][k]? = some o ∧ t.size ≤ 1048576) := by
          intro k t ht
          match k, ht with
          | 0, ht => simp at ht; subst ht; exact ⟨n1, o1, e1, rfl, rfl, by omega⟩
          | 1, ht => simp at ht; subst ht; exact ⟨n2, o2, e2, rfl, rfl, by omega⟩
          | 2, ht => simp at ht; subst ht; exact ⟨n3, o3', e3, rfl, rfl, by omega⟩
          | k + 3, ht => simp at ht
        have HC : Hid (∀ j, j < 3 → w3.cell? ⟨g, j, none⟩ = (ss [x, y, z])[j]?) := hc
        have HB3 : Hid (Below w0.heap.size w0 w3) := hb3
        have hs3 := hb3.size
        have qk : ∀ W, _ := fun W => ok_impl W n1 n2 n3 pr (by omega)
        unfold ver at qk
        obtain ⟨G, hG⟩ : ∃ G, G = w3.heap.size := ⟨_, rfl⟩
        have hGr : R3 (w3.alloc (.cells #[.int .i64 0, .int .i64 0, .int .i64 0] 55)) w3.heap.size 0 0 0 := heap_alloc_new w3 _
        have hGb : Below w3.heap.size w3 (w3.alloc (.cells #[.int .i64 0, .int .i64 0, .int .i64 0] 55)) := (Below.refl _ _).alloc (Nat.le_refl _) _
        clear e1 e2 e3 hc o3 hb3 b2 b3 hl3 q1 q2 q3 hx hy hz
        go_wp2
        go_loopw [44] (fun i wr => ∃ k : Nat, k ≤ 3 ∧ i = .int .i64 (k : Int) ∧ Hid ((0 < k → o1 = true) ∧ (1 < k → o2 = true) ∧ (2 < k → o3' = true)) ∧ R3 wr w3.heap.size (if 0 < k then n1 else 0) (if 1 < k then n2 else 0) (if 2 < k then n3 else 0) ∧ Below w3.heap.size w3 wr) (fun i _ => 3 - (intOf i).toNat)
        case atStart => exact ⟨0, by omega, rfl, ⟨fun h => absurd h (by omega), fun h => absurd h (by omega), fun h => absurd h (by omega)⟩, hGr, hGb⟩
        case round =>
          obtain ⟨k, hk, rfl, HA, hR, hb⟩ := hrel
          have hsz := hb.size
          have hB : Below w0.heap.size w0 wr := HB3.out.trans (hb.mono hs3)
          clear hGr hGb
          by_cases hlt : k < 3
          · obtain ⟨t, ht⟩ : ∃ t, [x, y, z][k]? = some t := ⟨[x, y, z][k]'(by simpa using hlt), List.getElem?_eq_getElem (by simpa using hlt)⟩
            obtain ⟨n, o, hu, hn, ho, htz⟩ := HQ.out k t ht
            have hcell : wr.cell? ⟨g, k, none⟩ = some (.string t) := by rw [hb.cell (p := ⟨g, k, none⟩) hg2, HC.out k hlt, ss_get, ht]; rfl
            have q := upto_impl wr t (by omega)
            rw [hu] at q
            simp only at q
            have HN1 : Hid ([n1, n2, n3][k]? = some n) := hn
            have HR : Hid (R3 wr w3.heap.size (if 0 < k then n1 else 0) (if 1 < k then n2 else 0) (if 2 < k then n3 else 0)) := hR
            have HOk : Hid ([o1, o2, o3'][k]? = some o) := ho
            clear hu hn ho hR ht
            cases o
            · have HN : Hid (readI s = none) := by
                show _ = _
                rw [HI4.out, if_neg]
                rintro ⟨h1, h2, h3, _⟩
                have := HOk.out
                subst h1 h2 h3
                match k, hlt with
                | 0, _ => simp at this
                | 1, _ => simp at this
                | 2, _ => simp at this
              go_wp2_with (go_at_call 34; refine q.mono ?_; rintro e w5 ⟨rfl, b5⟩)
              go_ret
              exact ⟨by rw [HN.out]; rfl, hB.trans (b5.mono hB.size)⟩
            · go_wp2_with fail
              refine q.mono ?_
              rintro e w5 ⟨rfl, b5⟩
              have r5 := R3.same HR.out b5
              obtain ⟨old, hold⟩ := R3.at r5 hlt
              have hfz := R3.frozen r5 k
              have HR5 : Hid (R3 w5 w3.heap.size (if 0 < k then n1 else 0) (if 1 < k then n2 else 0) (if 2 < k then n3 else 0)) := r5
              have HB5 : Hid (Below w3.heap.size w3 w5) := hb.trans (b5.mono hsz)
              clear r5 q b5 HR
              go_wp2
              go_roundw
              case rel =>
                refine ⟨k + 1, by omega, by go_num, ?_, R3.step HR5.out hlt HN1.out, HB5.out.setCell (p := ⟨w3.heap.size, k, none⟩) (Nat.le_refl _) _⟩
                have := HOk.out
                obtain ⟨h1, h2, h3⟩ := HA.out
                match k, hlt with
                | 0, _ => simp at this; exact ⟨fun _ => this, fun h => absurd h (by omega), fun h => absurd h (by omega)⟩
                | 1, _ => simp at this; exact ⟨fun _ => h1 (by omega), fun _ => this, fun h => absurd h (by omega)⟩
                | 2, _ => simp at this; exact ⟨fun _ => h1 (by omega), fun _ => h2 (by omega), fun _ => this⟩
              case measure => simp [intOf]; omega
          · have hk3 : k = 3 := by omega
            have hR' : R3 wr w3.heap.size n1 n2 n3 := by subst hk3; exact hR
            have HO : Hid (o1 = true ∧ o2 = true ∧ o3' = true) := by
              obtain ⟨h1, h2, h3⟩ := HA.out
              exact ⟨h1 (by omega), h2 (by omega), h3 (by omega)⟩
            obtain ⟨c0, c1, c2⟩ := R3.cells hR'
            have V6 : Hid (Vr (wr.alloc (.cells (vc n1 n2 n3 pr) 25)) wr.heap.size n1 n2 n3 pr) := heap_alloc_new wr _
            have B6 : Hid (Below w0.heap.size w0 (wr.alloc (.cells (vc n1 n2 n3 pr) 25))) := hB.alloc hB.size _
            clear hR hR' hk3
            obtain ⟨ok, hok⟩ : ∃ b, okV n1 n2 n3 pr = b := ⟨_, rfl⟩
            have HI5 : Hid (readI s = if ok = true then some (n1, n2, n3, pr) else none) := by
              show _ = _
              rw [HI4.out, HO.out.1, HO.out.2.1, HO.out.2.2, hok]
              simp
            rw [hok] at qk
            clear hok
            go_wp2_with fail
            refine (qk _).mono ?_
            rintro e w7 ⟨rfl, b7⟩
            have V7 : Vr w7 wr.heap.size n1 n2 n3 pr := Vr.same V6.out b7
            have B7 : Below w0.heap.size w0 w7 := B6.out.trans (b7.mono B6.out.size)
            clear V6 B6 b7 qk c0 c1 c2
            cases ok
            · go_wp2_with fail
              go_ret
              exact ⟨by rw [HI5.out]; rfl, B7⟩
            · go_wp2_with (refine wpList_load_row rfl 25 _ rfl wr.heap.size rfl 25 (vc n1 n2 n3 pr) (0, 0) _ V7 Tryd.underlying25 rfl (sizeV n1 n2 n3 pr) ?_)
              go_ret
              exact ⟨by rw [HI5.out]; rfl, B7⟩
      · have HN : Hid (readI s = none) := by show _ = _; rw [HI2.out, read3_no pr h3]; simp
        have d3 : ((T.length : Int) != 3) = true := by simp; omega
        clear h3
        go_enter Tryd.func19, Tryd.ntmps19
        go_wp2_with fail
        refine q1.mono ?_
        rintro e w0 ⟨rfl, rfl⟩
        go_wp2_with fail
        refine q2.mono ?_
        rintro e w2 ⟨rfl, b2⟩
        go_wp2_with fail
        refine (q3 w2).mono ?_
        rintro e w3 ⟨v3, rfl, o3, b3⟩
        have hb3 : Below w0.heap.size w0 w3 := b2.trans (b3.mono b2.size)
        obtain ⟨ao3, cap3, hv3⟩ := o3.len
        subst hv3
        rw [ss_len]
        clear o3
        go_wp2
        go_ret
        exact ⟨by rw [HN.out]; rfl, hb3⟩
    · cases pe
      · have HI3 : Hid (readI s = read3 T pr) := by
          show _ = _
          have := HP.out
          rw [HI2.out]
          simp at this
          simp [this]
        by_cases h3 : T.length = 3
        · obtain ⟨x, y, z, rfl⟩ := three h3
          have hx := HTs.out x (by simp)
          have hy := HTs.out y (by simp)
          have hz := HTs.out z (by simp)
          go_enter Tryd.func19, Tryd.ntmps19
          go_wp2_with fail
          refine q1.mono ?_
          rintro e w0 ⟨rfl, rfl⟩
          go_wp2_with fail
          refine q2.mono ?_
          rintro e w2 ⟨rfl, b2⟩
          go_wp2_with fail
          refine (q3 w2).mono ?_
          rintro e w3 ⟨v3, rfl, o3, b3⟩
          have hb3 : Below w0.heap.size w0 w3 := b2.trans (b3.mono b2.size)
          obtain ⟨g, cap, rfl, hg1, hg2, hcap, hc⟩ := ownForm o3 (by simp [ss])
          have hl3 : (ss [x, y, z]).length = 3 := rfl
          rw [hl3] at hcap hc
          rw [hl3]
          obtain ⟨n1, o1, e1⟩ : ∃ a b, upTo (sb x) 1000000 = (a, b) := ⟨_, _, rfl⟩
          obtain ⟨n2, o2, e2⟩ : ∃ a b, upTo (sb y) 1000000 = (a, b) := ⟨_, _, rfl⟩
          obtain ⟨n3, o3', e3⟩ : ∃ a b, upTo (sb z) 1000000 = (a, b) := ⟨_, _, rfl⟩
          have HI4 : Hid (readI s = if o1 = true ∧ o2 = true ∧ o3' = true ∧ okV n1 n2 n3 pr = true then some (n1, n2, n3, pr) else none) := by
            show _ = _
            rw [HI3.out]
            rw [read3_three]
            rw [e1, e2, e3]
          have HQ : Hid (∀ (k : Nat) (t : ByteArray), [x, y, z][k]? = some t → ∃ n o, upTo (sb t) 1000000 = (n, o) ∧ [n1, n2, n3][k]? = some n ∧ [o1, o2, o3'][k]? = some o ∧ t.size ≤ 1048576) := by
            intro k t ht
            match k, ht with
            | 0, ht => simp at ht; subst ht; exact ⟨n1, o1, e1, rfl, rfl, by omega⟩
            | 1, ht => simp at ht; subst ht; exact ⟨n2, o2, e2, rfl, rfl, by omega⟩
            | 2, ht => simp at ht; subst ht; exact ⟨n3, o3', e3, rfl, rfl, by omega⟩
            | k + 3, ht => simp at ht
          have HC : Hid (∀ j, j < 3 → w3.cell? ⟨g, j, none⟩ = (ss [x, y, z])[j]?) := hc
          have HB3 : Hid (Below w0.heap.size w0 w3) := hb3
          have hs3 := hb3.size
          have qk : ∀ W, _ := fun W => ok_impl W n1 n2 n3 pr (by omega)
          unfold ver at qk
          obtain ⟨G, hG⟩ : ∃ G, G = w3.heap.size := ⟨_, rfl⟩
          have hGr : R3 (w3.alloc (.cells #[.int .i64 0, .int .i64 0, .int .i64 0] 55)) w3.heap.size 0 0 0 := heap_alloc_new w3 _
          have hGb : Below w3.heap.size w3 (w3.alloc (.cells #[.int .i64 0, .int .i64 0, .int .i64 0] 55)) := (Below.refl _ _).alloc (Nat.le_refl _) _
          clear e1 e2 e3 hc o3 hb3 b2 b3 hl3 q1 q2 q3 hx hy hz
          go_wp2
          go_loopw [44] (fun i wr => ∃ k : Nat, k ≤ 3 ∧ i = .int .i64 (k : Int) ∧ Hid ((0 < k → o1 = true) ∧ (1 < k → o2 = true) ∧ (2 < k → o3' = true)) ∧ R3 wr w3.heap.size (if 0 < k then n1 else 0) (if 1 < k then n2 else 0) (if 2 < k then n3 else 0) ∧ Below w3.heap.size w3 wr) (fun i _ => 3 - (intOf i).toNat)
          case atStart => exact ⟨0, by omega, rfl, ⟨fun h => absurd h (by omega), fun h => absurd h (by omega), fun h => absurd h (by omega)⟩, hGr, hGb⟩
          case round =>
            obtain ⟨k, hk, rfl, HA, hR, hb⟩ := hrel
            have hsz := hb.size
            have hB : Below w0.heap.size w0 wr := HB3.out.trans (hb.mono hs3)
            clear hGr hGb
            by_cases hlt : k < 3
            · obtain ⟨t, ht⟩ : ∃ t, [x, y, z][k]? = some t := ⟨[x, y, z][k]'(by simpa using hlt), List.getElem?_eq_getElem (by simpa using hlt)⟩
              obtain ⟨n, o, hu, hn, ho, htz⟩ := HQ.out k t ht
              have hcell : wr.cell? ⟨g, k, none⟩ = some (.string t) := by rw [hb.cell (p := ⟨g, k, none⟩) hg2, HC.out k hlt, ss_get, ht]; rfl
              have q := upto_impl wr t (by omega)
              rw [hu] at q
              simp only at q
              have HN1 : Hid ([n1, n2, n3][k]? = some n) := hn
              have HR : Hid (R3 wr w3.heap.size (if 0 < k then n1 else 0) (if 1 < k then n2 else 0) (if 2 < k then n3 else 0)) := hR
              have HOk : Hid ([o1, o2, o3'][k]? = some o) := ho
              clear hu hn ho hR ht
              cases o
              · have HN : Hid (readI s = none) := by
                  show _ = _
                  rw [HI4.out, if_neg]
                  rintro ⟨h1, h2, h3, _⟩
                  have := HOk.out
                  subst h1 h2 h3
                  match k, hlt with
                  | 0, _ => simp at this
                  | 1, _ => simp at this
                  | 2, _ => simp at this
                go_wp2_with (go_at_call 34; refine q.mono ?_; rintro e w5 ⟨rfl, b5⟩)
                go_ret
                exact ⟨by rw [HN.out]; rfl, hB.trans (b5.mono hB.size)⟩
              · go_wp2_with fail
                refine q.mono ?_
                rintro e w5 ⟨rfl, b5⟩
                have r5 := R3.same HR.out b5
                obtain ⟨old, hold⟩ := R3.at r5 hlt
                have hfz := R3.frozen r5 k
                have HR5 : Hid (R3 w5 w3.heap.size (if 0 < k then n1 else 0) (if 1 < k then n2 else 0) (if 2 < k then n3 else 0)) := r5
                have HB5 : Hid (Below w3.heap.size w3 w5) := hb.trans (b5.mono hsz)
                clear r5 q b5 HR
                go_wp2
                go_roundw
                case rel =>
                  refine ⟨k + 1, by omega, by go_num, ?_, R3.step HR5.out hlt HN1.out, HB5.out.setCell (p := ⟨w3.heap.size, k, none⟩) (Nat.le_refl _) _⟩
                  have := HOk.out
                  obtain ⟨h1, h2, h3⟩ := HA.out
                  match k, hlt with
                  | 0, _ => simp at this; exact ⟨fun _ => this, fun h => absurd h (by omega), fun h => absurd h (by omega)⟩
                  | 1, _ => simp at this; exact ⟨fun _ => h1 (by omega), fun _ => this, fun h => absurd h (by omega)⟩
                  | 2, _ => simp at this; exact ⟨fun _ => h1 (by omega), fun _ => h2 (by omega), fun _ => this⟩
                case measure => simp [intOf]; omega
            · have hk3 : k = 3 := by omega
              have hR' : R3 wr w3.heap.size n1 n2 n3 := by subst hk3; exact hR
              have HO : Hid (o1 = true ∧ o2 = true ∧ o3' = true) := by
                obtain ⟨h1, h2, h3⟩ := HA.out
                exact ⟨h1 (by omega), h2 (by omega), h3 (by omega)⟩
              obtain ⟨c0, c1, c2⟩ := R3.cells hR'
              have V6 : Hid (Vr (wr.alloc (.cells (vc n1 n2 n3 pr) 25)) wr.heap.size n1 n2 n3 pr) := heap_alloc_new wr _
              have B6 : Hid (Below w0.heap.size w0 (wr.alloc (.cells (vc n1 n2 n3 pr) 25))) := hB.alloc hB.size _
              clear hR hR' hk3
              obtain ⟨ok, hok⟩ : ∃ b, okV n1 n2 n3 pr = b := ⟨_, rfl⟩
              have HI5 : Hid (readI s = if ok = true then some (n1, n2, n3, pr) else none) := by
                show _ = _
                rw [HI4.out, HO.out.1, HO.out.2.1, HO.out.2.2, hok]
                simp
              rw [hok] at qk
              clear hok
              go_wp2_with fail
              refine (qk _).mono ?_
              rintro e w7 ⟨rfl, b7⟩
              have V7 : Vr w7 wr.heap.size n1 n2 n3 pr := Vr.same V6.out b7
              have B7 : Below w0.heap.size w0 w7 := B6.out.trans (b7.mono B6.out.size)
              clear V6 B6 b7 qk c0 c1 c2
              cases ok
              · go_wp2_with fail
                go_ret
                exact ⟨by rw [HI5.out]; rfl, B7⟩
              · go_wp2_with (refine wpList_load_row rfl 25 _ rfl wr.heap.size rfl 25 (vc n1 n2 n3 pr) (0, 0) _ V7 Tryd.underlying25 rfl (sizeV n1 n2 n3 pr) ?_)
                go_ret
                exact ⟨by rw [HI5.out]; rfl, B7⟩
        · have HN : Hid (readI s = none) := by show _ = _; rw [HI2.out, read3_no pr h3]; simp
          have d3 : ((T.length : Int) != 3) = true := by simp; omega
          clear h3
          go_enter Tryd.func19, Tryd.ntmps19
          go_wp2_with fail
          refine q1.mono ?_
          rintro e w0 ⟨rfl, rfl⟩
          go_wp2_with fail
          refine q2.mono ?_
          rintro e w2 ⟨rfl, b2⟩
          go_wp2_with fail
          refine (q3 w2).mono ?_
          rintro e w3 ⟨v3, rfl, o3, b3⟩
          have hb3 : Below w0.heap.size w0 w3 := b2.trans (b3.mono b2.size)
          obtain ⟨ao3, cap3, hv3⟩ := o3.len
          subst hv3
          rw [ss_len]
          clear o3
          go_wp2
          go_ret
          exact ⟨by rw [HN.out]; rfl, hb3⟩
      · have HN : Hid (readI s = none) := by
          show _ = _
          have := HP.out
          rw [HI2.out]
          simp at this
          simp [this]
        go_enter Tryd.func19, Tryd.ntmps19
        go_wp2_with fail
        refine q1.mono ?_
        rintro e w0 ⟨rfl, rfl⟩
        go_wp2_with fail
        refine q2.mono ?_
        rintro e w2 ⟨rfl, b2⟩
        go_wp2_with fail
        refine (q3 w2).mono ?_
        rintro e w3 ⟨v3, rfl, o3, b3⟩
        have hb3 : Below w0.heap.size w0 w3 := b2.trans (b3.mono b2.size)
        obtain ⟨ao3, cap3, hv3⟩ := o3.len
        subst hv3
        rw [ss_len]
        clear o3
        go_wp2
        go_ret
        exact ⟨by rw [HN.out]; rfl, hb3⟩

end Go.Proofs.YtbpgdagmffbagabDoor.Ver
