/- Texts in one: Tr7, Tr8, TrL, TrM, ShaB. -/
import Derived.Test.YtljlcelbhlkmcacDoorPk5
import Derived.Test.YtljlcelbhlkmcacDoorPk4
/- Chapter 6, the specification's side: the roots of a beginning and of all over a path. -/
namespace Go.Proofs.YtljlcelbhlkmcacDoor.Tr
open Go.RowKit Go.Proofs.YtljlcelbhlkmcacDoor.Mem Go.Proofs.YtljlcelbhlkmcacDoor.Laws Go.Proofs.YtljlcelbhlkmcacDoor.Bytes Go.Proofs.YtljlcelbhlkmcacDoor.Sha
set_option linter.unusedVariables false
set_option linter.unusedSimpArgs false

theorem grown_size (m : Nat) : ∀ {n : Nat} {whole : Bool} {a : ByteArray} {p : List ByteArray}, a.size ≤ 10000000000 → (∀ s ∈ p, s.size ≤ 10000000000) → (grown n m whole a p).1.size ≤ 10000000000 ∧ (grown n m whole a p).2.1.size ≤ 10000000000 := by
  refine natRec (P := fun m => ∀ {n : Nat} {whole : Bool} {a : ByteArray} {p : List ByteArray}, a.size ≤ 10000000000 → (∀ s ∈ p, s.size ≤ 10000000000) → (grown n m whole a p).1.size ≤ 10000000000 ∧ (grown n m whole a p).2.1.size ≤ 10000000000) ?_ m
  intro m ih n whole a p ha hz
  by_cases hn : n = m
  · subst hn
    cases whole
    · by_cases hp : p.length = 1
      · obtain ⟨x, rfl⟩ := List.length_eq_one_iff.1 hp
        rw [grown_one]
        exact ⟨hz x (by simp), hz x (by simp)⟩
      · rw [grown_not a hp]
        exact ⟨Nat.zero_le _, Nat.zero_le _⟩
    · rw [grown_whole]
      exact ⟨ha, ha⟩
  · by_cases h : 2 ≤ m
    · have hk := half_ok h
      have hp := half_pos h
      rcases List.eq_nil_or_concat p with rfl | ⟨q, last, rfl⟩
      · rw [grown_nil hn h]; exact ⟨Nat.zero_le _, Nat.zero_le _⟩
      · rw [List.concat_eq_append] at *
        by_cases hi : n ≤ half m
        · rw [grown_low hn h hi]
          exact ⟨(ih (half m) (by omega) ha (fun s hs => hz s (by simp [hs]))).1, by simp only [nodeH_size]; omega⟩
        · rw [grown_high hn h hi]
          exact ⟨by simp only [nodeH_size]; omega, by simp only [nodeH_size]; omega⟩
    · rw [grown_if, if_neg hn, if_neg h]
      exact ⟨Nat.zero_le _, Nat.zero_le _⟩

end Go.Proofs.YtljlcelbhlkmcacDoor.Tr

/- Chapter 6, the specification's side: the exported functions. -/
namespace Go.Proofs.YtljlcelbhlkmcacDoor.Tr
open Go.RowKit Go.Proofs.YtljlcelbhlkmcacDoor.Mem Go.Proofs.YtljlcelbhlkmcacDoor.Laws Go.Proofs.YtljlcelbhlkmcacDoor.Bytes Go.Proofs.YtljlcelbhlkmcacDoor.Sha
set_option linter.unusedVariables false
set_option linter.unusedSimpArgs false

/-- texts held against each other -/
def eq6 (a b : ByteArray) : Bool := a.toList == b.toList
def rootOf (l : List ByteArray) : ByteArray := if l.length ≤ 200 then root l else ⟨#[]⟩
def inPath (l : List ByteArray) (i : Int) : List ByteArray := if l.length ≤ 200 ∧ 0 ≤ i ∧ i ≤ (l.length : Int) - 1 then path l i.toNat else []
def checkIn (s : ByteArray) (i n : Int) (p : List ByteArray) (r : ByteArray) : Bool :=
  if (1 ≤ n ∧ n ≤ 200) ∧ 0 ≤ i ∧ i ≤ n - 1 then (up (leafH s) i.toNat n.toNat p).2 && eq6 (up (leafH s) i.toNat n.toNat p).1 r else false
def growPath (l : List ByteArray) (n : Int) : List ByteArray := if l.length ≤ 200 ∧ 1 ≤ n ∧ n ≤ (l.length : Int) - 1 then grow l n.toNat true else []
def checkGrow (n m : Int) (a b : ByteArray) (p : List ByteArray) : Bool :=
  if 0 ≤ m ∧ m ≤ 200 then
    (if n = m then eq6 a b && p.isEmpty
     else if 1 ≤ n ∧ n ≤ m - 1 then (grown n.toNat m.toNat true a p).2.2 && eq6 (grown n.toNat m.toNat true a p).1 a && eq6 (grown n.toNat m.toNat true a p).2.1 b else false)
  else false

end Go.Proofs.YtljlcelbhlkmcacDoor.Tr

/- Chapter 6: the laws FnRoots, FnPaths, FnGrown, over contracts of the landed functions. -/
namespace Go.Proofs.YtljlcelbhlkmcacDoor.Tr
open Go.RowKit Go.Proofs.YtljlcelbhlkmcacDoor.Mem Go.Proofs.YtljlcelbhlkmcacDoor.Laws Go.Proofs.YtljlcelbhlkmcacDoor.Bytes Go.Proofs.YtljlcelbhlkmcacDoor.Sha Go.Proofs.YtljlcelbhlkmcacDoor.Draw
set_option linter.unusedVariables false
set_option linter.unusedSimpArgs false

theorem rootOf_small {l : List ByteArray} (h : l.length ≤ 200) : rootOf l = root l := by unfold rootOf; rw [if_pos h]
theorem eq6_same (a : ByteArray) : eq6 a a = true := by unfold eq6; simp
theorem keepC {W W' : World} {p : Addr} {x : Value} (h : W.cell? p = some x) (b : Below W.heap.size W W') : W'.cell? p = some x := by
  rw [b.cell (World.block_lt_of_cell? W p h)]; exact h
/-- where a text of a slice lies -/
theorem slAt {w : World} {b off n cap : Nat} {l : List ByteArray} (h : Sl w (.slice (some ⟨b, off, none⟩) n cap) (ss l)) {i : Nat} {s : ByteArray} (hi : l[i]? = some s) : w.cell? ⟨b, off + i, none⟩ = some (.string s) := by
  have hil : i < l.length := (List.getElem?_eq_some_iff.1 hi).1
  obtain ⟨ao', c', he, _, _, hr⟩ := h
  simp only [Value.slice.injEq] at he
  obtain ⟨rfl, _, rfl⟩ := he
  obtain ⟨b', off', he', hcell⟩ := hr (by rw [ss_len]; omega)
  simp only [Option.some.injEq, Addr.mk.injEq] at he'
  obtain ⟨rfl, rfl, _⟩ := he'
  rw [hcell i (by rw [ss_len]; omega)]
  simp [ss, hi]

set_option maxRecDepth 1000000 in
set_option maxHeartbeats 4000000 in
theorem roots6 (w : World) (v0 : Value) (xs0 : List Int) (h0 : Sl w v0 (bs xs0)) (y0 : Byt xs0) (m0 : xs0.length ≤ maxLen)
    (iRoot : ∀ W, Below w.heap.size w W → ∀ (v' : Value) (l : List ByteArray), Sl W v' (ss l) → l.length ≤ 1000 → (∀ s ∈ l, s.size ≤ 1000) → Calls Tryd.prog 9 #[v'] W fun e w' => e = .returned (.string (rootOf l)) ∧ Below W.heap.size W w')
    (iLeaf : ∀ W, Below w.heap.size w W → ∀ s : ByteArray, s.size ≤ 1000 → Calls Tryd.prog 13 #[.string s] W fun e w' => e = .returned (.string (leafH s)) ∧ Below W.heap.size W w')
    (iNode : ∀ W, Below w.heap.size w W → ∀ a b : ByteArray, a.size ≤ 1000 → b.size ≤ 1000 → Calls Tryd.prog 14 #[.string a, .string b] W fun e w' => e = .returned (.string (nodeH a b)) ∧ Below W.heap.size W w') :
    Calls Tryd.prog 5 #[v0] w fun e w' => e = .returned (.bool true) ∧ Below w.heap.size w w' := by
  have hs := h0
  have hby := y0
  obtain ⟨ao0, cap0, rfl, -, -, -⟩ := h0
  rw [Mem.bs_len] at hs ⊢
  clear m0 y0
  by_cases hbig : 1048576 < xs0.length
  · have qb := big_yes w ao0 xs0.length cap0 hbig
    clear iRoot iLeaf iNode
    go_enter Tryd.func5, Tryd.ntmps5
    go_wp2_with fail
    refine qb.mono ?_
    rintro e w1 ⟨rfl, rfl⟩
    go_wp2
    go_ret
    exact ⟨rfl, Below.refl _ _⟩
  have qb := big_no w ao0 xs0.length cap0 hbig
  have qd := leaves_any w _ xs0 hs hby (by omega)
  clear hbig hs hby
  go_enter Tryd.func5, Tryd.ntmps5
  go_wp2_with fail
  refine qb.mono ?_
  rintro e w1 ⟨rfl, rfl⟩
  go_wp2_with fail
  refine qd.mono ?_
  rintro e w1 ⟨v1, l, i, rfl, hl1, hl9, hil, hz, o1, B1⟩
  clear qb qd
  obtain ⟨b, off, cap, rfl, hcap⟩ := slForm o1.sl (by rw [ss_len]; omega)
  rw [ss_len] at *
  have s1 := o1.sl
  have HZ : Hid (∀ s ∈ l, s.size ≤ 1000) := fun s hs => by have := hz s hs; omega
  have qR : ∀ W, Below w1.heap.size w1 W → _ := fun W hW => iRoot W (B1.trans (hW.mono B1.size)) _ l (s1.later hW) (by omega) HZ.out
  have hrz := root_size l
  rw [rootOf_small (by omega)] at qR
  have HR1 : Hid (l.length = 1 → ∀ s, l[0]? = some s → root l = leafH s) := by
    intro h s hs
    obtain ⟨t, rfl⟩ := List.length_eq_one_iff.1 h
    simp at hs
    subst hs
    exact root_one t
  have HR2 : Hid (2 ≤ l.length → root l = nodeH (root (l.take (half l.length))) (root (l.drop (half l.length)))) := fun h => root_more h
  obtain ⟨r, hr⟩ : ∃ r, root l = r := ⟨_, rfl⟩
  simp only [hr] at qR hrz HR1 HR2
  have HRr : Hid (root l = r) := hr
  clear hr hz o1
  go_wp2_with fail
  refine (qR _ (Below.refl _ _)).mono ?_
  rintro e w2 ⟨rfl, b2⟩
  have B2 : Below w.heap.size w w2 := B1.trans (b2.mono B1.size)
  have d32 : ((r.size : Int) != 32) = false := by rw [hrz]; rfl
  by_cases hone : l.length = 1
  · obtain ⟨s, hs0⟩ : ∃ s, l[0]? = some s := ⟨l[0], by simp⟩
    have he := HR1.out hone s hs0
    have hsz := HZ.out s (List.mem_of_getElem? hs0)
    have c0 : w2.cell? ⟨b, off, none⟩ = some (.string s) := by have := slAt (s1.later b2) hs0; simpa using this
    have qL : ∀ W, Below w.heap.size w W → _ := fun W hW => iLeaf W hW s hsz
    rw [← he] at qL
    have d1 : ((l.length : Int) == 1) = true := by rw [hone]; rfl
    have v1 : 0 < l.length := by omega
    have deq : (r.toList == r.toList) = true := by simp
    clear HR1 HR2 hs0 he hone
    go_wp2_with fail
    refine wp_region_held_drew (S := fun w' => w'.cell? ⟨b, off, none⟩ = some (.string s)) (by kernel_rfl) c0 (fun hHeld => ?_)
    (refine wpAnyH_take (i := 0) (v := ?v0x1) rfl (by kernel_rfl) (by kernel_rfl) (by kernel_rfl) (fun _ _ _ h => h) (Or.inl ⟨by rfl, ?hy0x1⟩) (by assumption) ?rest0x1; case hy0x1 => (intro w hSw; (try dsimp only at hSw); go_split_ands; go_simp; (try with_reducible rfl)))
    try simp only [Act.put, List.setIfInBounds_toArray, List.set_cons_zero, List.set_cons_succ, List.getElem_toArray, List.getElem_cons_zero, List.getElem_cons_succ]
    (refine wpAnyH_take (i := 2) (v := ?v2x2) rfl (by kernel_rfl) (by kernel_rfl) (by kernel_rfl) (fun _ _ _ h => h) (Or.inl ⟨by rfl, ?hy2x2⟩) (by assumption) ?rest2x2; case hy2x2 => (intro w hSw; (try dsimp only at hSw); go_split_ands; go_simp; (try with_reducible rfl)))
    try simp only [Act.put, List.setIfInBounds_toArray, List.set_cons_zero, List.set_cons_succ, List.getElem_toArray, List.getElem_cons_zero, List.getElem_cons_succ]
    (refine wpAnyH_take (i := 3) (v := ?v3x3) rfl (by kernel_rfl) (by kernel_rfl) (by kernel_rfl) (fun _ _ _ h => h) (Or.inl ⟨by rfl, ?hy3x3⟩) (by assumption) ?rest3x3; case hy3x3 => (intro w hSw; (try dsimp only at hSw); go_split_ands; go_simp; (try with_reducible rfl)))
    try simp only [Act.put, List.setIfInBounds_toArray, List.set_cons_zero, List.set_cons_succ, List.getElem_toArray, List.getElem_cons_zero, List.getElem_cons_succ]
    (refine wpAnyH_take (i := 4) (v := ?v4x4) rfl (by kernel_rfl) (by kernel_rfl) (by kernel_rfl) (fun _ _ _ h => h) (Or.inl ⟨by rfl, ?hy4x4⟩) (by assumption) ?rest4x4; case hy4x4 => (intro w hSw; (try dsimp only at hSw); go_split_ands; go_simp; (try with_reducible rfl)))
    try simp only [Act.put, List.setIfInBounds_toArray, List.set_cons_zero, List.set_cons_succ, List.getElem_toArray, List.getElem_cons_zero, List.getElem_cons_succ]
    refine wpAnyH_ready (rs := [1]) (by kernel_rfl) (by simp) ?_
    refine AllReadyH.cons rfl (fun K hK => ?_) AllReadyH.nil
    go_simp
    refine (qR _ (Below.drew b2)).mono ?_
    rintro e w3 ⟨rfl, b3⟩
    refine hK.out _ _ (keepC hHeld b3) (fun hHeld => ?_)
    clear hK K
    try simp only [Act.put, List.setIfInBounds_toArray, List.set_cons_zero, List.set_cons_succ, List.getElem_toArray, List.getElem_cons_zero, List.getElem_cons_succ]
    have b3x : Below w1.heap.size w1 w3 := (Below.drew b2).trans (b3.mono b2.size)
    have B3 : Below w.heap.size w w3 := B1.trans (b3x.mono B1.size)
    refine wpAnyH_ready (rs := [5]) (by kernel_rfl) (by simp) ?_
    refine AllReadyH.cons rfl (fun K hK => ?_) AllReadyH.nil
    go_simp
    refine (qL _ B3).mono ?_
    rintro e w4 ⟨rfl, b4⟩
    refine hK.out _ _ (keepC hHeld b4) (fun hHeld => ?_)
    clear hK K
    try simp only [Act.put, List.setIfInBounds_toArray, List.set_cons_zero, List.set_cons_succ, List.getElem_toArray, List.getElem_cons_zero, List.getElem_cons_succ]
    have B4 : Below w.heap.size w w4 := B3.trans (b4.mono B3.size)
    (refine wpAnyH_take (i := 6) (v := ?v6x5) rfl (by kernel_rfl) (by kernel_rfl) (by kernel_rfl) (fun _ _ _ h => h) (Or.inl ⟨by rfl, ?hy6x5⟩) (by assumption) ?rest6x5; case hy6x5 => (intro w hSw; (try dsimp only at hSw); go_split_ands; go_simp; (try with_reducible rfl)))
    try simp only [Act.put, List.setIfInBounds_toArray, List.set_cons_zero, List.set_cons_succ, List.getElem_toArray, List.getElem_cons_zero, List.getElem_cons_succ]
    (refine wpAnyH_take (i := 7) (v := ?v7x6) rfl (by kernel_rfl) (by kernel_rfl) (by kernel_rfl) (fun _ _ _ h => h) (Or.inl ⟨by rfl, ?hy7x6⟩) (by assumption) ?rest7x6; case hy7x6 => (intro w hSw; (try dsimp only at hSw); go_split_ands; go_simp; (try with_reducible rfl)))
    try simp only [Act.put, List.setIfInBounds_toArray, List.set_cons_zero, List.set_cons_succ, List.getElem_toArray, List.getElem_cons_zero, List.getElem_cons_succ]
    refine wpAnyH_done (by kernel_rfl) ?_ _
    clear hHeld
    go_wp2
    go_ret
    exact ⟨rfl, B4⟩
  · have h2 : 2 ≤ l.length := by omega
    have HE : Hid (r = nodeH (root (l.take (half l.length))) (root (l.drop (half l.length)))) := HR2.out h2
    have d1 : ((l.length : Int) == 1) = false := by rw [beq_eq_false_iff_ne]; omega
    clear HR1 HR2
    clear hone
    go_wp2
    go_loopw [5] (fun i wr => ∃ k f : Nat, i = .int .i64 (k : Int) ∧ 1 ≤ k ∧ k ≤ l.length + 1 ∧ l.length ≤ k + f ∧ Hid (halfF f k l.length = half l.length) ∧ wr = w2) (fun i _ => l.length + 1 - (intOf i).toNat)
    case atStart => exact ⟨1, l.length, rfl, Nat.le_refl _, by omega, by omega, rfl, rfl⟩
    case round =>
      obtain ⟨k, f, rfl, hk1, hk2, hf, HH, hwr⟩ := hrel
      have hwr := hwr.symm
      subst hwr
      by_cases hlt : 2 * k < l.length
      · obtain ⟨g, rfl⟩ : ∃ g, f = g + 1 := ⟨f - 1, by omega⟩
        have HN : Hid (halfF g (2 * k) l.length = half l.length) := by
          show _ = _
          rw [← HH.out, halfF, if_pos hlt]
        have hlt' : (2 : Int) * (k : Int) < (l.length : Int) := by omega
        clear HH
        go_wp2
        go_roundw
        case rel => exact ⟨2 * k, g, by go_num, by omega, by omega, by omega, HN, by trivial⟩
        case measure => simp [intOf]; omega
      · have HN : half l.length = k := by
          rw [← HH.out]
          cases f with
          | zero => rfl
          | succ f => rw [halfF, if_neg hlt]
        have hk := half_ok h2
        have he' := HE.out
        rw [HN] at hk he'
        obtain ⟨_, hk3, hk4⟩ := hk
        have hlt' : ¬ (2 : Int) * (k : Int) < (l.length : Int) := by omega
        have t1 : Sl w1 (.slice (some ⟨b, off, none⟩) k cap) (ss (l.take k)) := by rw [← ss_take]; exact s1.front k (by rw [ss_len]; omega)
        have t2 : Sl w1 (.slice (some ⟨b, off + k, none⟩) (l.length - k) (cap - k)) (ss (l.drop k)) := by rw [← ss_drop]; exact slBack s1 k (by rw [ss_len]; omega)
        have q1 : ∀ W, Below w1.heap.size w1 W → _ := fun W hW => iRoot W (B1.trans (hW.mono B1.size)) _ (l.take k) (t1.later hW) (by rw [List.length_take]; omega) (fun s hs => HZ.out s (List.mem_of_mem_take hs))
        have q2 : ∀ W, Below w1.heap.size w1 W → _ := fun W hW => iRoot W (B1.trans (hW.mono B1.size)) _ (l.drop k) (t2.later hW) (by rw [List.length_drop]; omega) (fun s hs => HZ.out s (List.mem_of_mem_drop hs))
        rw [rootOf_small (by rw [List.length_take]; omega)] at q1
        rw [rootOf_small (by rw [List.length_drop]; omega)] at q2
        have z1 := root_size (l.take k)
        have z2 := root_size (l.drop k)
        obtain ⟨x, hx⟩ : ∃ x, root (l.take k) = x := ⟨_, rfl⟩
        obtain ⟨y, hy⟩ : ∃ x, root (l.drop k) = x := ⟨_, rfl⟩
        simp only [hx] at q1 z1 he'
        simp only [hy] at q2 z2 he'
        have q3 : ∀ W, Below w.heap.size w W → _ := fun W hW => iNode W hW x y (by omega) (by omega)
        rw [← he'] at q3
        have v1 : (k : Int) ≤ (l.length : Int) := by omega
        have v2 : (k : Int) ≤ (cap : Int) := by omega
        have v3 : (l.length : Int) ≤ (cap : Int) := by omega
        have vne : ¬ cap = k := by omega
        have deq : (r.toList == r.toList) = true := by simp
        clear HH HN HE he' hx hy t1 t2 hlt
        go_wp2_with fail
        refine wp_region_held_drew (S := fun _ => True) (by kernel_rfl) trivial (fun hHeld => ?_)
        (refine wpAnyH_take (i := 0) (v := ?v0x7) rfl (by kernel_rfl) (by kernel_rfl) (by kernel_rfl) (fun _ _ _ h => h) (Or.inl ⟨by rfl, ?hy0x7⟩) (by assumption) ?rest0x7; case hy0x7 => (intro w hSw; (try dsimp only at hSw); go_split_ands; go_simp; (try with_reducible rfl)))
        try simp only [Act.put, List.setIfInBounds_toArray, List.set_cons_zero, List.set_cons_succ, List.getElem_toArray, List.getElem_cons_zero, List.getElem_cons_succ]
        (refine wpAnyH_take (i := 2) (v := ?v2x8) rfl (by kernel_rfl) (by kernel_rfl) (by kernel_rfl) (fun _ _ _ h => h) (Or.inl ⟨by rfl, ?hy2x8⟩) (by assumption) ?rest2x8; case hy2x8 => (intro w hSw; (try dsimp only at hSw); go_split_ands; go_simp; (try with_reducible rfl)))
        try simp only [Act.put, List.setIfInBounds_toArray, List.set_cons_zero, List.set_cons_succ, List.getElem_toArray, List.getElem_cons_zero, List.getElem_cons_succ]
        (refine wpAnyH_take (i := 3) (v := ?v3x9) rfl (by kernel_rfl) (by kernel_rfl) (by kernel_rfl) (fun _ _ _ h => h) (Or.inl ⟨by rfl, ?hy3x9⟩) (by assumption) ?rest3x9; case hy3x9 => (intro w hSw; (try dsimp only at hSw); go_split_ands; go_simp; (try with_reducible rfl)))
        try simp only [Act.put, List.setIfInBounds_toArray, List.set_cons_zero, List.set_cons_succ, List.getElem_toArray, List.getElem_cons_zero, List.getElem_cons_succ]
        (refine wpAnyH_take (i := 4) (v := ?v4x10) rfl (by kernel_rfl) (by kernel_rfl) (by kernel_rfl) (fun _ _ _ h => h) (Or.inl ⟨by rfl, ?hy4x10⟩) (by assumption) ?rest4x10; case hy4x10 => (intro w hSw; (try dsimp only at hSw); go_split_ands; go_simp; (try with_reducible rfl)))
        try simp only [Act.put, List.setIfInBounds_toArray, List.set_cons_zero, List.set_cons_succ, List.getElem_toArray, List.getElem_cons_zero, List.getElem_cons_succ]
        (refine wpAnyH_take (i := 6) (v := ?v6x11) rfl (by kernel_rfl) (by kernel_rfl) (by kernel_rfl) (fun _ _ _ h => h) (Or.inl ⟨by rfl, ?hy6x11⟩) (by assumption) ?rest6x11; case hy6x11 => (intro w hSw; (try dsimp only at hSw); go_split_ands; go_simp; (try with_reducible rfl)))
        try simp only [Act.put, List.setIfInBounds_toArray, List.set_cons_zero, List.set_cons_succ, List.getElem_toArray, List.getElem_cons_zero, List.getElem_cons_succ]
        (refine wpAnyH_take (i := 7) (v := ?v7x12) rfl (by kernel_rfl) (by kernel_rfl) (by kernel_rfl) (fun _ _ _ h => h) (Or.inl ⟨by rfl, ?hy7x12⟩) (by assumption) ?rest7x12; case hy7x12 => (intro w hSw; (try dsimp only at hSw); go_split_ands; go_simp; (try with_reducible rfl)))
        try simp only [Act.put, List.setIfInBounds_toArray, List.set_cons_zero, List.set_cons_succ, List.getElem_toArray, List.getElem_cons_zero, List.getElem_cons_succ]
        (refine wpAnyH_take (i := 8) (v := ?v8x13) rfl (by kernel_rfl) (by kernel_rfl) (by kernel_rfl) (fun _ _ _ h => h) (Or.inl ⟨by rfl, ?hy8x13⟩) (by assumption) ?rest8x13; case hy8x13 => (intro w hSw; (try dsimp only at hSw); go_split_ands; go_simp; (try with_reducible rfl)))
        try simp only [Act.put, List.setIfInBounds_toArray, List.set_cons_zero, List.set_cons_succ, List.getElem_toArray, List.getElem_cons_zero, List.getElem_cons_succ]
        refine wpAnyH_ready (rs := [1]) (by kernel_rfl) (by simp) ?_
        refine AllReadyH.cons rfl (fun K hK => ?_) AllReadyH.nil
        go_simp
        refine (qR _ (Below.drew b2)).mono ?_
        rintro e w3 ⟨rfl, b3⟩
        refine hK.out _ _ trivial (fun hHeld => ?_)
        clear hK K
        try simp only [Act.put, List.setIfInBounds_toArray, List.set_cons_zero, List.set_cons_succ, List.getElem_toArray, List.getElem_cons_zero, List.getElem_cons_succ]
        have b3x : Below w1.heap.size w1 w3 := (Below.drew b2).trans (b3.mono b2.size)
        refine wpAnyH_ready (rs := [5]) (by kernel_rfl) (by simp) ?_
        refine AllReadyH.cons rfl (fun K hK => ?_) AllReadyH.nil
        go_simp
        refine (q1 _ b3x).mono ?_
        rintro e w4 ⟨rfl, b4⟩
        refine hK.out _ _ trivial (fun hHeld => ?_)
        clear hK K
        try simp only [Act.put, List.setIfInBounds_toArray, List.set_cons_zero, List.set_cons_succ, List.getElem_toArray, List.getElem_cons_zero, List.getElem_cons_succ]
        have b4x : Below w1.heap.size w1 w4 := b3x.trans (b4.mono b3x.size)
        refine wpAnyH_ready (rs := [9]) (by kernel_rfl) (by simp) ?_
        refine AllReadyH.cons rfl (fun K hK => ?_) AllReadyH.nil
        go_simp
        refine (q2 _ b4x).mono ?_
        rintro e w5 ⟨rfl, b5⟩
        refine hK.out _ _ trivial (fun hHeld => ?_)
        clear hK K
        try simp only [Act.put, List.setIfInBounds_toArray, List.set_cons_zero, List.set_cons_succ, List.getElem_toArray, List.getElem_cons_zero, List.getElem_cons_succ]
        have b5x : Below w1.heap.size w1 w5 := b4x.trans (b5.mono b4x.size)
        have B5 : Below w.heap.size w w5 := B1.trans (b5x.mono B1.size)
        refine wpAnyH_ready (rs := [10]) (by kernel_rfl) (by simp) ?_
        refine AllReadyH.cons rfl (fun K hK => ?_) AllReadyH.nil
        go_simp
        refine (q3 _ B5).mono ?_
        rintro e w6 ⟨rfl, b6⟩
        refine hK.out _ _ trivial (fun hHeld => ?_)
        clear hK K
        try simp only [Act.put, List.setIfInBounds_toArray, List.set_cons_zero, List.set_cons_succ, List.getElem_toArray, List.getElem_cons_zero, List.getElem_cons_succ]
        have B6 : Below w.heap.size w w6 := B5.trans (b6.mono B5.size)
        (refine wpAnyH_take (i := 11) (v := ?v11x14) rfl (by kernel_rfl) (by kernel_rfl) (by kernel_rfl) (fun _ _ _ h => h) (Or.inl ⟨by rfl, ?hy11x14⟩) (by assumption) ?rest11x14; case hy11x14 => (intro w hSw; (try dsimp only at hSw); go_split_ands; go_simp; (try with_reducible rfl)))
        try simp only [Act.put, List.setIfInBounds_toArray, List.set_cons_zero, List.set_cons_succ, List.getElem_toArray, List.getElem_cons_zero, List.getElem_cons_succ]
        (refine wpAnyH_take (i := 12) (v := ?v12x15) rfl (by kernel_rfl) (by kernel_rfl) (by kernel_rfl) (fun _ _ _ h => h) (Or.inl ⟨by rfl, ?hy12x15⟩) (by assumption) ?rest12x15; case hy12x15 => (intro w hSw; (try dsimp only at hSw); go_split_ands; go_simp; (try with_reducible rfl)))
        try simp only [Act.put, List.setIfInBounds_toArray, List.set_cons_zero, List.set_cons_succ, List.getElem_toArray, List.getElem_cons_zero, List.getElem_cons_succ]
        refine wpAnyH_done (by kernel_rfl) ?_ _
        clear hHeld
        go_wp2
        go_ret
        exact ⟨rfl, B6⟩

end Go.Proofs.YtljlcelbhlkmcacDoor.Tr

/- Chapter 6: the laws FnPaths and FnGrown, over contracts of the landed functions. -/
namespace Go.Proofs.YtljlcelbhlkmcacDoor.Tr
open Go.RowKit Go.Proofs.YtljlcelbhlkmcacDoor.Mem Go.Proofs.YtljlcelbhlkmcacDoor.Laws Go.Proofs.YtljlcelbhlkmcacDoor.Bytes Go.Proofs.YtljlcelbhlkmcacDoor.Sha Go.Proofs.YtljlcelbhlkmcacDoor.Draw
set_option linter.unusedVariables false
set_option linter.unusedSimpArgs false

theorem ssOne (l : List ByteArray) : ∀ u ∈ ss l, u.oneCell' = true := by
  intro u hu
  simp only [ss, List.mem_map] at hu
  obtain ⟨s, _, rfl⟩ := hu
  rfl
theorem path_sizes (l : List ByteArray) : ∀ i : Nat, ∀ t ∈ path l i, t.size ≤ 32 := by
  refine lenRec (P := fun l => ∀ i : Nat, ∀ t ∈ path l i, t.size ≤ 32) ?_ l
  intro l ih i
  by_cases h : 2 ≤ l.length
  · have hk := half_ok h
    have hp := half_pos h
    intro t ht
    by_cases hi : i < half l.length
    · rw [path_low h hi] at ht
      rcases List.mem_append.1 ht with ht | ht
      · exact ih (l.take (half l.length)) (take_lt h) i t ht
      · simp at ht; rw [ht, root_size]; exact Nat.le_refl _
    · rw [path_high h hi] at ht
      rcases List.mem_append.1 ht with ht | ht
      · exact ih (l.drop (half l.length)) (drop_lt h) (i - half l.length) t ht
      · simp at ht; rw [ht, root_size]; exact Nat.le_refl _
  · rw [path_no h]
    intro t ht
    cases ht
theorem grow_sizes (l : List ByteArray) : ∀ (n : Nat) (whole : Bool), ∀ t ∈ grow l n whole, t.size ≤ 32 := by
  refine lenRec (P := fun l => ∀ (n : Nat) (whole : Bool), ∀ t ∈ grow l n whole, t.size ≤ 32) ?_ l
  intro l ih n whole
  by_cases hn : n = l.length
  · subst hn
    rw [grow_all]
    intro t ht
    cases whole
    · simp at ht; rw [ht, root_size]; exact Nat.le_refl _
    · simp at ht
  · by_cases h : 2 ≤ l.length
    · have hk := half_ok h
      have hp := half_pos h
      intro t ht
      by_cases hi : n ≤ half l.length
      · rw [grow_low h hn hi] at ht
        rcases List.mem_append.1 ht with ht | ht
        · exact ih (l.take (half l.length)) (take_lt h) n whole t ht
        · simp at ht; rw [ht, root_size]; exact Nat.le_refl _
      · rw [grow_high h hn hi] at ht
        rcases List.mem_append.1 ht with ht | ht
        · exact ih (l.drop (half l.length)) (drop_lt h) (n - half l.length) false t ht
        · simp at ht; rw [ht, root_size]; exact Nat.le_refl _
    · rw [grow_if, if_neg hn, if_neg h]
      intro t ht
      cases ht

theorem paths_facts {l : List ByteArray} {i : Nat} {s : ByteArray} (hl : l.length ≤ 200) (hs : l[i]? = some s) :
    checkIn s (i : Int) (l.length : Int) (path l i) (root l) = true ∧ checkIn s (i : Int) (l.length : Int) (path l i ++ [root l]) (root l) = false ∧ checkIn s (l.length : Int) (l.length : Int) (path l i) (root l) = false := by
  have hil : i < l.length := (List.getElem?_eq_some_iff.1 hs).1
  refine ⟨?_, ?_, ?_⟩
  · unfold checkIn
    rw [if_pos ⟨⟨by omega, by omega⟩, by omega, by omega⟩]
    simp only [Int.toNat_natCast]
    rw [up_path l i s hs]
    simp [eq6_same]
  · unfold checkIn
    rw [if_pos ⟨⟨by omega, by omega⟩, by omega, by omega⟩]
    simp only [Int.toNat_natCast]
    rw [up_len, List.length_append, path_len]
    simp
  · unfold checkIn
    rw [if_neg (by rintro ⟨_, _, h⟩; omega)]
theorem grown_facts {l : List ByteArray} {n : Nat} (hl : l.length ≤ 200) (h1 : 1 ≤ n) (hn : n < l.length) :
    checkGrow (n : Int) (l.length : Int) (root (l.take n)) (root l) (grow l n true) = true ∧ checkGrow (n : Int) (l.length : Int) (root (l.take n)) (root l) (grow l n true ++ [root l]) = false := by
  constructor
  · unfold checkGrow
    rw [if_pos ⟨by omega, by omega⟩, if_neg (by omega), if_pos ⟨by omega, by omega⟩]
    simp only [Int.toNat_natCast]
    rw [grown_grow l n true _ h1 (by omega) (fun _ => rfl)]
    simp [eq6_same]
  · unfold checkGrow
    rw [if_pos ⟨by omega, by omega⟩, if_neg (by omega), if_pos ⟨by omega, by omega⟩]
    simp only [Int.toNat_natCast]
    rw [grown_len _ _ _ _ _ h1 (by omega), List.length_append, grow_len]
    simp
theorem grown_self {m : Nat} (hm : m ≤ 200) (r : ByteArray) : checkGrow (m : Int) (m : Int) r r [] = true := by
  unfold checkGrow
  rw [if_pos ⟨by omega, by omega⟩, if_pos rfl]
  simp [eq6_same]
theorem grown_zero {m : Nat} (h1 : 1 ≤ m) (r : ByteArray) : checkGrow 0 (m : Int) r r [] = false := by
  unfold checkGrow
  split
  · rw [if_neg (by omega), if_neg (by omega)]
  · rfl

set_option maxRecDepth 1000000 in
set_option maxHeartbeats 4000000 in
theorem paths6 (w : World) (v0 : Value) (xs0 : List Int) (h0 : Sl w v0 (bs xs0)) (y0 : Byt xs0) (m0 : xs0.length ≤ maxLen)
    (iRoot : ∀ W, Below w.heap.size w W → ∀ (v' : Value) (l : List ByteArray), Sl W v' (ss l) → l.length ≤ 1000 → (∀ s ∈ l, s.size ≤ 1000) → Calls Tryd.prog 9 #[v'] W fun e w' => e = .returned (.string (rootOf l)) ∧ Below W.heap.size W w')
    (iIn : ∀ W, Below w.heap.size w W → ∀ (v' : Value) (l : List ByteArray) (i : Int), Sl W v' (ss l) → l.length ≤ 1000 → (∀ s ∈ l, s.size ≤ 1000) → Calls Tryd.prog 8 #[v', .int .i64 i] W fun e w' => ∃ v'', e = .returned v'' ∧ Own w' W.heap.size w'.heap.size 9 v'' (ss (inPath l i)) ∧ Below W.heap.size W w')
    (iCk : ∀ W, Below w.heap.size w W → ∀ (v' : Value) (s : ByteArray) (i n : Int) (p : List ByteArray) (r : ByteArray), Sl W v' (ss p) → p.length ≤ 1000 → s.size ≤ 1000 → r.size ≤ 1000 → (∀ t ∈ p, t.size ≤ 1000) → Calls Tryd.prog 10 #[.string s, .int .i64 i, .int .i64 n, v', .string r] W fun e w' => e = .returned (.bool (checkIn s i n p r)) ∧ Below W.heap.size W w') :
    Calls Tryd.prog 3 #[v0] w fun e w' => e = .returned (.bool true) ∧ Below w.heap.size w w' := by
  have hs := h0
  have hby := y0
  obtain ⟨ao0, cap0, rfl, -, -, -⟩ := h0
  rw [Mem.bs_len] at hs ⊢
  clear m0 y0
  by_cases hbig : 1048576 < xs0.length
  · have qb := big_yes w ao0 xs0.length cap0 hbig
    clear iRoot iIn iCk
    go_enter Tryd.func3, Tryd.ntmps3
    go_wp2_with fail
    refine qb.mono ?_
    rintro e w1 ⟨rfl, rfl⟩
    go_wp2
    go_ret
    exact ⟨rfl, Below.refl _ _⟩
  have qb := big_no w ao0 xs0.length cap0 hbig
  have qd := leaves_any w _ xs0 hs hby (by omega)
  obtain ⟨i0, hi, hz0, hz1, hz2⟩ := info_parts info9t
  clear hbig hs hby
  go_enter Tryd.func3, Tryd.ntmps3
  go_wp2_with fail
  refine qb.mono ?_
  rintro e wx ⟨rfl, rfl⟩
  go_wp2_with fail
  refine qd.mono ?_
  rintro e w1 ⟨v1, l, i, rfl, hl1, hl9, hil, hz, o1, B1⟩
  clear qb qd
  obtain ⟨b, off, cap, rfl, hcap⟩ := slForm o1.sl (by rw [ss_len]; omega)
  rw [ss_len] at *
  have HS1 : Hid (Sl w1 (.slice (some ⟨b, off, none⟩) l.length cap) (ss l)) := o1.sl
  have HZ : Hid (∀ s ∈ l, s.size ≤ 1000) := fun s hs => by have := hz s hs; omega
  obtain ⟨s, hs0⟩ : ∃ s, l[i]? = some s := ⟨l[i], by simp [hil]⟩
  have hsz := HZ.out s (List.mem_of_getElem? hs0)
  obtain ⟨f1, f2, f3⟩ := paths_facts (by omega) hs0
  have hpl := path_len l i
  have hdl := dep_le l.length i
  have HPZ : Hid (∀ t ∈ path l i, t.size ≤ 1000) := fun t ht => by have := path_sizes l i t ht; omega
  have hip : inPath l (i : Int) = path l i := by unfold inPath; rw [if_pos ⟨by omega, by omega, by omega⟩]; rfl
  have qI := iIn w1 B1 _ l (i : Int) HS1.out (by omega) HZ.out
  have qR : ∀ W, Below w1.heap.size w1 W → _ := fun W hW => iRoot W (B1.trans (hW.mono B1.size)) _ l (HS1.out.later hW) (by omega) HZ.out
  have hrz := root_size l
  rw [rootOf_small (by omega)] at qR
  rw [hip] at qI
  obtain ⟨r, hr⟩ : ∃ r, root l = r := ⟨_, rfl⟩
  obtain ⟨P, hP⟩ : ∃ r, path l i = r := ⟨_, rfl⟩
  simp only [hr, hP] at qR hrz f1 f2 f3 qI HPZ hpl
  have hP9 : P.length ≤ 9 := by omega
  have cell : ∀ W, Below w1.heap.size w1 W → W.cell? ⟨b, off + i, none⟩ = some (.string s) := fun W hW => slAt (HS1.out.later hW) hs0
  have HC : Hid (∀ W, Below w1.heap.size w1 W → W.cell? ⟨b, off + i, none⟩ = some (.string s)) := cell
  clear hr hP hip hpl hdl hz o1 hs0 cell
  go_wp2_with fail
  refine qI.mono ?_
  rintro e w2 ⟨vp, rfl, op, b2⟩
  obtain ⟨aop, capp, rfl⟩ := op.len
  rw [ss_len] at *
  have HSp : Hid (Sl w2 (.slice aop P.length capp) (ss P)) := op.sl
  clear qI op
  go_wp2_with fail
  refine (qR _ b2).mono ?_
  rintro e w3 ⟨rfl, b3⟩
  have b3x : Below w1.heap.size w1 w3 := b2.trans (b3.mono b2.size)
  have HSp3 : Hid (Sl w3 (.slice aop P.length capp) (ss P)) := HSp.out.later b3
  clear qR HSp b2 b3
  have oe := emptyT w3 w3.heap.size (Nat.le_refl _)
  have spe : ∀ o, Sl (w3.alloc o) (.slice aop P.length capp) (ss P) := fun o => HSp3.out.later ((Below.refl _ _).alloc (Nat.le_refl _) _)
  have c6 : (ss []).length + (ss P).length ≤ maxLen := by rw [ss_len, ss_len]; unfold maxLen; simp; omega
  have c7 : ((ss []).length + (ss P).length) * 16 ≤ 140737488355328 := by rw [ss_len, ss_len]; simp; omega
  have c8 : ∀ o, w3.heap.size ≤ (w3.alloc o).heap.size := fun o => by simp
  go_wp2_with (at_builtin; go_must (refine wpl_app _ rfl (.tmp 20) (.tmp 21) 24 rfl 9 i0 (.string ⟨#[]⟩) 16 Tryd.underlying24 hi hz0 hz1 hz2 rfl w3.heap.size _ (ss []) rfl oe _ rfl (ss P) (spe _) (ssOne _) c6 c7 (c8 _) ?_))
  intro v4 w4 ho4 hb4 hg4
  have s4 : w3.heap.size ≤ w4.heap.size := Nat.le_trans (c8 _) hb4.size
  have b4x : Below w3.heap.size w3 w4 := ((Below.refl _ _).alloc (Nat.le_refl _) _).trans hb4
  have d6 : (ss [] ++ ss P).length + 1 ≤ maxLen := by rw [List.length_append, ss_len, ss_len]; unfold maxLen; simp; omega
  have d7 : ((ss [] ++ ss P).length + 1) * 16 ≤ 140737488355328 := by rw [List.length_append, ss_len, ss_len]; simp; omega
  have d8 : ∀ o, w3.heap.size ≤ (w4.alloc o).heap.size := fun o => by simp; omega
  clear oe spe hg4 hb4
  go_wp2_with (at_builtin; go_must (refine wpl_app _ rfl (.tmp 22) (.tmp 24) 24 rfl 9 i0 (.string ⟨#[]⟩) 16 Tryd.underlying24 hi hz0 hz1 hz2 rfl w3.heap.size _ (ss [] ++ ss P) rfl (ho4.alloc _) _ rfl [.string r] (Sl.one _ _ _) (oneT _) d6 d7 (d8 _) ?_))
  intro v5 w5 ho5 hb5 hg5
  have b5x : Below w3.heap.size w3 w5 := (b4x.alloc b4x.size _).trans hb5
  have b5y : Below w1.heap.size w1 w5 := b3x.trans (b5x.mono b3x.size)
  have B5 : Below w.heap.size w w5 := B1.trans (b5y.mono B1.size)
  have HSm : Hid (Sl w5 v5 (ss (P ++ [r]))) := by
    have := ho5.sl
    show Sl _ _ _
    rw [ss_app]
    simpa [ss] using this
  have HSp5 : Hid (Sl w5 (.slice aop P.length capp) (ss P)) := HSp3.out.later b5x
  have k5 := HC.out w5 b5y
  have q1 := iCk w5 B5 _ s (i : Int) (l.length : Int) P r HSp5.out (by omega) hsz (by omega) HPZ.out
  rw [f1] at q1
  have vi : (i : Int) < (l.length : Int) := by omega
  clear ho4 ho5 hb5 hg5 d6 d7 d8 c6 c7 c8 HSp3 b4x s4
  go_wp2_with fail
  refine q1.mono ?_
  rintro e w6 ⟨rfl, b6⟩
  have b6y : Below w1.heap.size w1 w6 := b5y.trans (b6.mono b5y.size)
  have B6 : Below w.heap.size w w6 := B1.trans (b6y.mono B1.size)
  have k6 := HC.out w6 b6y
  have q2 := iCk w6 B6 _ s (i : Int) (l.length : Int) (P ++ [r]) r (HSm.out.later b6) (by simp; omega) hsz (by omega) (fun t ht => by
    rcases List.mem_append.1 ht with ht | ht
    · exact HPZ.out t ht
    · simp at ht; rw [ht]; omega)
  rw [f2] at q2
  have HSp6 : Hid (Sl w6 (.slice aop P.length capp) (ss P)) := HSp5.out.later b6
  clear q1 k5 HSp5 HSm b6
  go_wp2_with fail
  refine q2.mono ?_
  rintro e w7 ⟨rfl, b7⟩
  have b7y : Below w1.heap.size w1 w7 := b6y.trans (b7.mono b6y.size)
  have B7 : Below w.heap.size w w7 := B1.trans (b7y.mono B1.size)
  have k7 := HC.out w7 b7y
  have q3 := iCk w7 B7 _ s (l.length : Int) (l.length : Int) P r (HSp6.out.later b7) (by omega) hsz (by omega) HPZ.out
  rw [f3] at q3
  clear q2 k6 HSp6 b7
  go_wp2_with fail
  refine q3.mono ?_
  rintro e w8 ⟨rfl, b8⟩
  have B8 : Below w.heap.size w w8 := B7.trans (b8.mono B7.size)
  clear q3 b8
  go_wp2
  go_ret
  exact ⟨rfl, B8⟩

set_option maxRecDepth 1000000 in
set_option maxHeartbeats 4000000 in
theorem grown6 (w : World) (v0 : Value) (xs0 : List Int) (h0 : Sl w v0 (bs xs0)) (y0 : Byt xs0) (m0 : xs0.length ≤ maxLen)
    (iRoot : ∀ W, Below w.heap.size w W → ∀ (v' : Value) (l : List ByteArray), Sl W v' (ss l) → l.length ≤ 1000 → (∀ s ∈ l, s.size ≤ 1000) → Calls Tryd.prog 9 #[v'] W fun e w' => e = .returned (.string (rootOf l)) ∧ Below W.heap.size W w')
    (iGp : ∀ W, Below w.heap.size w W → ∀ (v' : Value) (l : List ByteArray) (n : Int), Sl W v' (ss l) → l.length ≤ 1000 → (∀ s ∈ l, s.size ≤ 1000) → Calls Tryd.prog 12 #[v', .int .i64 n] W fun e w' => ∃ v'', e = .returned v'' ∧ Own w' W.heap.size w'.heap.size 9 v'' (ss (growPath l n)) ∧ Below W.heap.size W w')
    (iCg : ∀ W, Below w.heap.size w W → ∀ (v' : Value) (n m : Int) (a b : ByteArray) (p : List ByteArray), Sl W v' (ss p) → p.length ≤ 1000 → a.size ≤ 1000 → b.size ≤ 1000 → (∀ t ∈ p, t.size ≤ 1000) → Calls Tryd.prog 11 #[.int .i64 n, .int .i64 m, .string a, .string b, v'] W fun e w' => e = .returned (.bool (checkGrow n m a b p)) ∧ Below W.heap.size W w') :
    Calls Tryd.prog 4 #[v0] w fun e w' => e = .returned (.bool true) ∧ Below w.heap.size w w' := by
  have hs := h0
  have hby := y0
  obtain ⟨ao0, cap0, rfl, -, -, -⟩ := h0
  rw [Mem.bs_len] at hs ⊢
  clear m0 y0
  by_cases hbig : 1048576 < xs0.length
  · have qb := big_yes w ao0 xs0.length cap0 hbig
    clear iRoot iGp iCg
    go_enter Tryd.func4, Tryd.ntmps4
    go_wp2_with fail
    refine qb.mono ?_
    rintro e w1 ⟨rfl, rfl⟩
    go_wp2
    go_ret
    exact ⟨rfl, Below.refl _ _⟩
  have qb := big_no w ao0 xs0.length cap0 hbig
  have qd := leaves_any w _ xs0 hs hby (by omega)
  obtain ⟨i0, hi, hz0, hz1, hz2⟩ := info_parts info9t
  clear hbig hs hby
  go_enter Tryd.func4, Tryd.ntmps4
  go_wp2_with fail
  refine qb.mono ?_
  rintro e wx ⟨rfl, rfl⟩
  go_wp2_with fail
  refine qd.mono ?_
  rintro e w1 ⟨v1, l, n, rfl, hl1, hl9, hil, hz, o1, B1⟩
  clear qb qd
  obtain ⟨b, off, cap, rfl, hcap⟩ := slForm o1.sl (by rw [ss_len]; omega)
  rw [ss_len] at *
  have HS1 : Hid (Sl w1 (.slice (some ⟨b, off, none⟩) l.length cap) (ss l)) := o1.sl
  have HZ : Hid (∀ s ∈ l, s.size ≤ 1000) := fun s hs => by have := hz s hs; omega
  have qR := iRoot w1 B1 _ l HS1.out (by omega) HZ.out
  have hrz := root_size l
  rw [rootOf_small (by omega)] at qR
  have f1 := grown_self (m := l.length) (by omega) (root l)
  have f2 := grown_zero (m := l.length) hl1 (root l)
  have HF : Hid (1 ≤ n → checkGrow (n : Int) (l.length : Int) (root (l.take n)) (root l) (grow l n true) = true ∧ checkGrow (n : Int) (l.length : Int) (root (l.take n)) (root l) (grow l n true ++ [root l]) = false) := fun h => grown_facts (by omega) h hil
  obtain ⟨r, hr⟩ : ∃ r, root l = r := ⟨_, rfl⟩
  simp only [hr] at qR hrz f1 f2 HF
  clear hr hz o1
  go_wp2_with fail
  refine qR.mono ?_
  rintro e w2 ⟨rfl, b2⟩
  have B2 : Below w.heap.size w w2 := B1.trans (b2.mono B1.size)
  clear qR
  have q1 := iCg (w2.alloc (.cells #[] 9)) (B2.alloc B2.size _) _ (l.length : Int) (l.length : Int) r r [] (emptyT w2 w2.heap.size (Nat.le_refl _)).sl (by simp) (by omega) (by omega) (fun t ht => by cases ht)
  rw [f1] at q1
  have ba : Below w1.heap.size w1 (w2.alloc (.cells #[] 9)) := b2.alloc b2.size _
  go_wp2_with fail
  refine q1.mono ?_
  rintro e w3 ⟨rfl, b3⟩
  have b3x : Below w1.heap.size w1 w3 := ba.trans (b3.mono ba.size)
  have B3 : Below w.heap.size w w3 := B1.trans (b3x.mono B1.size)
  clear q1 ba b2 B2 b3
  have q2 := iCg (w3.alloc (.cells #[] 9)) (B3.alloc B3.size _) _ 0 (l.length : Int) r r [] (emptyT w3 w3.heap.size (Nat.le_refl _)).sl (by simp) (by omega) (by omega) (fun t ht => by cases ht)
  rw [f2] at q2
  have ba : Below w1.heap.size w1 (w3.alloc (.cells #[] 9)) := b3x.alloc b3x.size _
  go_wp2_with fail
  refine q2.mono ?_
  rintro e w4 ⟨rfl, b4⟩
  have b4x : Below w1.heap.size w1 w4 := ba.trans (b4.mono ba.size)
  have B4 : Below w.heap.size w w4 := B1.trans (b4x.mono B1.size)
  clear q2 ba b3x B3 b4
  by_cases h0 : n = 0
  · have q3 := iGp w4 B4 _ l 0 (HS1.out.later b4x) (by omega) HZ.out
    rw [show growPath l 0 = [] by unfold growPath; rw [if_neg (by omega)]] at q3
    subst h0
    clear HF
    go_wp2_with fail
    refine q3.mono ?_
    rintro e w5 ⟨v5, rfl, o5, b5⟩
    obtain ⟨ao5, cap5, rfl⟩ := o5.len
    rw [ss_len] at *
    have B5 : Below w.heap.size w w5 := B4.trans (b5.mono B4.size)
    clear q3 o5
    go_wp2
    go_ret
    exact ⟨rfl, B5⟩
  · have hn1 : 1 ≤ n := by omega
    have d0 : ((n : Int) == 0) = false := by rw [beq_eq_false_iff_ne]; omega
    obtain ⟨f3, f4⟩ := HF.out hn1
    have q3 := iGp w4 B4 _ l (n : Int) (HS1.out.later b4x) (by omega) HZ.out
    rw [show growPath l (n : Int) = grow l n true by unfold growPath; rw [if_pos ⟨by omega, by omega, by omega⟩]; rfl] at q3
    have hpl := grow_len l n true
    have hdl := gdep_le l.length n true
    have hpp := grow_pos (l := l) hn1 hil true
    have HPZ : Hid (∀ t ∈ grow l n true, t.size ≤ 1000) := fun t ht => by have := grow_sizes l n true t ht; omega
    have t1 : Sl w1 (.slice (some ⟨b, off, none⟩) n cap) (ss (l.take n)) := by rw [← ss_take]; exact HS1.out.front n (by rw [ss_len]; omega)
    have qA : ∀ W, Below w1.heap.size w1 W → _ := fun W hW => iRoot W (B1.trans (hW.mono B1.size)) _ (l.take n) (t1.later hW) (by rw [List.length_take]; omega) (fun s hs => HZ.out s (List.mem_of_mem_take hs))
    rw [rootOf_small (by rw [List.length_take]; omega)] at qA
    have haz := root_size (l.take n)
    obtain ⟨a, hA⟩ : ∃ r, root (l.take n) = r := ⟨_, rfl⟩
    obtain ⟨P, hP⟩ : ∃ r, grow l n true = r := ⟨_, rfl⟩
    simp only [hA, hP] at qA haz f3 f4 q3 hpl hpp HPZ
    have hP9 : P.length ≤ 10 := by omega
    have hPp : 0 < P.length := hpp
    have v1 : (n : Int) ≤ (cap : Int) := by omega
    have v2 : (n : Int) ≤ (l.length : Int) := by omega
    clear HF hA hP hpl hdl hpp t1 h0
    go_wp2_with fail
    refine q3.mono ?_
    rintro e w5 ⟨vp, rfl, op, b5⟩
    obtain ⟨aop, capp, rfl⟩ := op.len
    rw [ss_len] at *
    have HSp : Hid (Sl w5 (.slice aop P.length capp) (ss P)) := op.sl
    have b5x : Below w1.heap.size w1 w5 := b4x.trans (b5.mono b4x.size)
    clear q3 op b5 b4x B4
    go_wp2_with fail
    refine (qA _ b5x).mono ?_
    rintro e w6 ⟨rfl, b6⟩
    have b6x : Below w1.heap.size w1 w6 := b5x.trans (b6.mono b5x.size)
    have HSp6 : Hid (Sl w6 (.slice aop P.length capp) (ss P)) := HSp.out.later b6
    clear qA HSp b6 b5x
    have oe := emptyT w6 w6.heap.size (Nat.le_refl _)
    have spe : ∀ o, Sl (w6.alloc o) (.slice aop P.length capp) (ss P) := fun o => HSp6.out.later ((Below.refl _ _).alloc (Nat.le_refl _) _)
    have c6 : (ss []).length + (ss P).length ≤ maxLen := by rw [ss_len, ss_len]; unfold maxLen; simp; omega
    have c7 : ((ss []).length + (ss P).length) * 16 ≤ 140737488355328 := by rw [ss_len, ss_len]; simp; omega
    have c8 : ∀ o, w6.heap.size ≤ (w6.alloc o).heap.size := fun o => by simp
    go_wp2_with (at_builtin; go_must (refine wpl_app _ rfl (.tmp 48) (.tmp 49) 24 rfl 9 i0 (.string ⟨#[]⟩) 16 Tryd.underlying24 hi hz0 hz1 hz2 rfl w6.heap.size _ (ss []) rfl oe _ rfl (ss P) (spe _) (ssOne _) c6 c7 (c8 _) ?_))
    intro v7 w7 ho7 hb7 hg7
    have s7 : w6.heap.size ≤ w7.heap.size := Nat.le_trans (c8 _) hb7.size
    have b7x : Below w6.heap.size w6 w7 := ((Below.refl _ _).alloc (Nat.le_refl _) _).trans hb7
    have d6 : (ss [] ++ ss P).length + 1 ≤ maxLen := by rw [List.length_append, ss_len, ss_len]; unfold maxLen; simp; omega
    have d7 : ((ss [] ++ ss P).length + 1) * 16 ≤ 140737488355328 := by rw [List.length_append, ss_len, ss_len]; simp; omega
    have d8 : ∀ o, w6.heap.size ≤ (w7.alloc o).heap.size := fun o => by simp; omega
    clear oe spe hg7 hb7
    go_wp2_with (at_builtin; go_must (refine wpl_app _ rfl (.tmp 50) (.tmp 52) 24 rfl 9 i0 (.string ⟨#[]⟩) 16 Tryd.underlying24 hi hz0 hz1 hz2 rfl w6.heap.size _ (ss [] ++ ss P) rfl (ho7.alloc _) _ rfl [.string r] (Sl.one _ _ _) (oneT _) d6 d7 (d8 _) ?_))
    intro v8 w8 ho8 hb8 hg8
    have b8x : Below w6.heap.size w6 w8 := (b7x.alloc b7x.size _).trans hb8
    have b8y : Below w1.heap.size w1 w8 := b6x.trans (b8x.mono b6x.size)
    have B8 : Below w.heap.size w w8 := B1.trans (b8y.mono B1.size)
    have HSm : Hid (Sl w8 v8 (ss (P ++ [r]))) := by
      have := ho8.sl
      show Sl _ _ _
      rw [ss_app]
      simpa [ss] using this
    have HSp8 : Hid (Sl w8 (.slice aop P.length capp) (ss P)) := HSp6.out.later b8x
    have q4 := iCg w8 B8 _ (n : Int) (l.length : Int) a r P HSp8.out (by omega) (by omega) (by omega) HPZ.out
    rw [f3] at q4
    clear ho7 ho8 hb8 hg8 d6 d7 d8 c6 c7 c8 HSp6 b7x s7 b8x b6x
    go_wp2_with fail
    refine q4.mono ?_
    rintro e w9 ⟨rfl, b9⟩
    have B9 : Below w.heap.size w w9 := B8.trans (b9.mono B8.size)
    have q5 := iCg w9 B9 _ (n : Int) (l.length : Int) a r (P ++ [r]) (HSm.out.later b9) (by simp; omega) (by omega) (by omega) (fun t ht => by
      rcases List.mem_append.1 ht with ht | ht
      · exact HPZ.out t ht
      · simp at ht; rw [ht]; omega)
    rw [f4] at q5
    clear q4 HSm b9 HSp8
    go_wp2_with fail
    refine q5.mono ?_
    rintro e w10 ⟨rfl, b10⟩
    have B10 : Below w.heap.size w w10 := B9.trans (b10.mono B9.size)
    have vP : (0 : Int) < (P.length : Int) := by omega
    clear q5 b10
    go_wp2
    go_ret
    exact ⟨rfl, B10⟩

end Go.Proofs.YtljlcelbhlkmcacDoor.Tr

/- Contracts of the program's turns of words, as plain functions of natural numbers. -/
namespace Go.Proofs.YtljlcelbhlkmcacDoor.Sha
open Go.RowKit Go.Proofs.YtljlcelbhlkmcacDoor.Mem Go.Proofs.YtljlcelbhlkmcacDoor.Laws Go.Proofs.YtljlcelbhlkmcacDoor.Bytes
set_option linter.unusedVariables false
set_option linter.unusedSimpArgs false

theorem wraps32 (n : Int) (h0 : 0 ≤ n) (h1 : n < 2 ^ 32) : IntKind.u32.wrap n = n := by rw [IntKind.wrap_u32]; omega
theorem wrap32 (n : Nat) : IntKind.u32.wrap (n : Int) = ((n % 4294967296 : Nat) : Int) := by rw [IntKind.wrap_u32]; omega

theorem or32 {a b : Nat} (ha : a < 4294967296) (hb : b < 4294967296) : bits .or .u32 (a : Int) (b : Int) = ((a ||| b : Nat) : Int) := (bits_nat .u32 32 (by decide) wraps32 a b ha hb).2
theorem and32 {a b : Nat} (ha : a < 4294967296) (hb : b < 4294967296) : bits .and .u32 (a : Int) (b : Int) = ((a &&& b : Nat) : Int) := (bits_nat .u32 32 (by decide) wraps32 a b ha hb).1
theorem xor32 {a b : Nat} (ha : a < 4294967296) (hb : b < 4294967296) : bits .xor .u32 (a : Int) (b : Int) = ((a ^^^ b : Nat) : Int) := by
  have ha' : a % 2 ^ 32 = a := Nat.mod_eq_of_lt (by omega)
  have hb' : b % 2 ^ 32 = b := Nat.mod_eq_of_lt (by omega)
  have e : bits .xor .u32 (a : Int) (b : Int) = IntKind.u32.wrap (((BitVec.ofInt 32 (a : Int) ^^^ BitVec.ofInt 32 (b : Int)).toNat : Nat) : Int) := rfl
  rw [e, BitVec.ofInt_natCast, BitVec.ofInt_natCast, BitVec.toNat_xor, BitVec.toNat_ofNat, BitVec.toNat_ofNat, ha', hb']
  exact wraps32 _ (Int.natCast_nonneg _) (by have := Nat.xor_lt_two_pow (n := 32) ha hb; omega)

theorem turn_split (x n : Nat) (hx : x < 4294967296) : turn x n = (x * 2 ^ (32 - n) % 4294967296 ||| x / 2 ^ n) := by
  unfold turn
  have hd : x / 2 ^ n < 2 ^ 32 := Nat.lt_of_le_of_lt (Nat.div_le_self _ _) hx
  rw [show (4294967296 : Nat) = 2 ^ 32 by decide, Nat.or_mod_two_pow, Nat.mod_eq_of_lt hd, Nat.or_comm]

set_option maxRecDepth 1000000 in
set_option maxHeartbeats 400000 in
theorem rot_impl (w : World) (x n : Nat) (k : Int) (hk : bits .and .u64 (IntKind.u64.wrap k) 31 = ((32 - n : Nat) : Int)) (hx : x < 4294967296) (hn1 : 1 ≤ n) (hn2 : n ≤ 31) :
    Calls Tryd.prog 46 #[.int .u32 (x : Int), .int .i64 k] w fun e w' => e = .returned (.int .u32 (turn x n : Nat)) ∧ w = w' := by
  go_enter Tryd.func46, Tryd.ntmps46
  go_wp2
  go_ret
  refine ⟨congrArg (fun z => Ending.returned (.int .u32 z)) ?_, rfl⟩
  have e1 : (x : Int) * 2 ^ (32 - n) % 4294967296 = ((x * 2 ^ (32 - n) % 4294967296 : Nat) : Int) := by rw [Int.natCast_emod, Int.natCast_mul, Int.natCast_pow]; rfl
  have e2 : (x : Int) / 2 ^ (32 - (32 - n)) = ((x / 2 ^ n : Nat) : Int) := by rw [show 32 - (32 - n) = n by omega, Int.natCast_ediv, Int.natCast_pow]; rfl
  have hd : x / 2 ^ n < 4294967296 := Nat.lt_of_le_of_lt (Nat.div_le_self _ _) hx
  show bits .or .u32 ((x : Int) * 2 ^ (32 - n) % 4294967296) ((x : Int) / 2 ^ (32 - (32 - n))) = _
  rw [e1, e2, or32 (Nat.mod_lt _ (by decide)) hd, turn_split x n hx]

set_option maxRecDepth 1000000 in
set_option maxHeartbeats 400000 in
theorem turn_impl (w : World) (x n : Nat) (k : Int) (hkn : k = (n : Int)) (hk : bits .and .u64 (IntKind.u64.wrap (-k)) 31 = ((32 - n : Nat) : Int)) (hx : x < 4294967296) (hn1 : 1 ≤ n) (hn2 : n ≤ 31) :
    Calls Tryd.prog 45 #[.int .u32 (x : Int), .int .i64 k] w fun e w' => e = .returned (.int .u32 (turn x n : Nat)) ∧ w = w' := by
  have hk0 : 0 ≤ k := by omega
  have hk1 : k ≤ 31 := by omega
  have hr := rot_impl w x n (-k) hk hx hn1 hn2
  have hw : IntKind.i64.wrap (-k) = -k := by rw [IntKind.wrap_i64]; omega
  clear hk hkn
  go_enter Tryd.func45, Tryd.ntmps45
  go_wp2_with fail
  refine hr.mono ?_
  rintro e w' ⟨rfl, rfl⟩
  go_wp2
  go_ret
  exact ⟨rfl, rfl⟩

set_option maxRecDepth 1000000 in
set_option maxHeartbeats 400000 in
theorem s0_impl (w : World) (x : Nat) (hx : x < 4294967296) : Calls Tryd.prog 43 #[.int .u32 (x : Int)] w fun e w' => e = .returned (.int .u32 (s0w x : Nat)) ∧ w = w' := by
  have q1 := turn_impl w x 7 7 rfl (by decide) hx (by omega) (by omega)
  have q2 := turn_impl w x 18 18 rfl (by decide) hx (by omega) (by omega)
  have HB : Hid (bits .xor .u32 (bits .xor .u32 ((turn x 7 : Nat) : Int) ((turn x 18 : Nat) : Int)) ((x : Int) / 8) = ((s0w x : Nat) : Int)) := by
    show _ = _
    have e : (x : Int) / 8 = ((x / 8 : Nat) : Int) := by omega
    rw [e, xor32 (turn_lt _ _) (turn_lt _ _), xor32 (xl (turn_lt _ _) (turn_lt _ _)) (by omega)]; rfl
  go_enter Tryd.func43, Tryd.ntmps43
  go_wp2_with fail
  refine q1.mono ?_
  rintro e w' ⟨rfl, rfl⟩
  go_wp2_with fail
  refine q2.mono ?_
  rintro e w' ⟨rfl, rfl⟩
  go_wp2
  go_ret
  exact ⟨congrArg (fun z => Ending.returned (.int .u32 z)) HB.out, rfl⟩

set_option maxRecDepth 1000000 in
set_option maxHeartbeats 400000 in
theorem s1_impl (w : World) (x : Nat) (hx : x < 4294967296) : Calls Tryd.prog 44 #[.int .u32 (x : Int)] w fun e w' => e = .returned (.int .u32 (s1w x : Nat)) ∧ w = w' := by
  have q1 := turn_impl w x 17 17 rfl (by decide) hx (by omega) (by omega)
  have q2 := turn_impl w x 19 19 rfl (by decide) hx (by omega) (by omega)
  have HB : Hid (bits .xor .u32 (bits .xor .u32 ((turn x 17 : Nat) : Int) ((turn x 19 : Nat) : Int)) ((x : Int) / 1024) = ((s1w x : Nat) : Int)) := by
    show _ = _
    have e : (x : Int) / 1024 = ((x / 1024 : Nat) : Int) := by omega
    rw [e, xor32 (turn_lt _ _) (turn_lt _ _), xor32 (xl (turn_lt _ _) (turn_lt _ _)) (by omega)]; rfl
  go_enter Tryd.func44, Tryd.ntmps44
  go_wp2_with fail
  refine q1.mono ?_
  rintro e w' ⟨rfl, rfl⟩
  go_wp2_with fail
  refine q2.mono ?_
  rintro e w' ⟨rfl, rfl⟩
  go_wp2
  go_ret
  exact ⟨congrArg (fun z => Ending.returned (.int .u32 z)) HB.out, rfl⟩

set_option maxRecDepth 1000000 in
set_option maxHeartbeats 400000 in
theorem b0_impl (w : World) (x : Nat) (hx : x < 4294967296) : Calls Tryd.prog 39 #[.int .u32 (x : Int)] w fun e w' => e = .returned (.int .u32 (big0 x : Nat)) ∧ w = w' := by
  have q1 := turn_impl w x 2 2 rfl (by decide) hx (by omega) (by omega)
  have q2 := turn_impl w x 13 13 rfl (by decide) hx (by omega) (by omega)
  have q3 := turn_impl w x 22 22 rfl (by decide) hx (by omega) (by omega)
  have HB : Hid (bits .xor .u32 (bits .xor .u32 ((turn x 2 : Nat) : Int) ((turn x 13 : Nat) : Int)) ((turn x 22 : Nat) : Int) = ((big0 x : Nat) : Int)) := by
    show _ = _
    rw [xor32 (turn_lt _ _) (turn_lt _ _), xor32 (xl (turn_lt _ _) (turn_lt _ _)) (turn_lt _ _)]; rfl
  go_enter Tryd.func39, Tryd.ntmps39
  go_wp2_with fail
  refine q1.mono ?_
  rintro e w' ⟨rfl, rfl⟩
  go_wp2_with fail
  refine q2.mono ?_
  rintro e w' ⟨rfl, rfl⟩
  go_wp2_with fail
  refine q3.mono ?_
  rintro e w' ⟨rfl, rfl⟩
  go_wp2
  go_ret
  exact ⟨congrArg (fun z => Ending.returned (.int .u32 z)) HB.out, rfl⟩

set_option maxRecDepth 1000000 in
set_option maxHeartbeats 400000 in
theorem b1_impl (w : World) (x : Nat) (hx : x < 4294967296) : Calls Tryd.prog 37 #[.int .u32 (x : Int)] w fun e w' => e = .returned (.int .u32 (big1 x : Nat)) ∧ w = w' := by
  have q1 := turn_impl w x 6 6 rfl (by decide) hx (by omega) (by omega)
  have q2 := turn_impl w x 11 11 rfl (by decide) hx (by omega) (by omega)
  have q3 := turn_impl w x 25 25 rfl (by decide) hx (by omega) (by omega)
  have HB : Hid (bits .xor .u32 (bits .xor .u32 ((turn x 6 : Nat) : Int) ((turn x 11 : Nat) : Int)) ((turn x 25 : Nat) : Int) = ((big1 x : Nat) : Int)) := by
    show _ = _
    rw [xor32 (turn_lt _ _) (turn_lt _ _), xor32 (xl (turn_lt _ _) (turn_lt _ _)) (turn_lt _ _)]; rfl
  go_enter Tryd.func37, Tryd.ntmps37
  go_wp2_with fail
  refine q1.mono ?_
  rintro e w' ⟨rfl, rfl⟩
  go_wp2_with fail
  refine q2.mono ?_
  rintro e w' ⟨rfl, rfl⟩
  go_wp2_with fail
  refine q3.mono ?_
  rintro e w' ⟨rfl, rfl⟩
  go_wp2
  go_ret
  exact ⟨congrArg (fun z => Ending.returned (.int .u32 z)) HB.out, rfl⟩

set_option maxRecDepth 1000000 in
set_option maxHeartbeats 400000 in
theorem ch_impl (w : World) (e f g : Nat) (he : e < 4294967296) (hf : f < 4294967296) (hg : g < 4294967296) : Calls Tryd.prog 38 #[.int .u32 (e : Int), .int .u32 (f : Int), .int .u32 (g : Int)] w fun e' w' => e' = .returned (.int .u32 (ch e f g : Nat)) ∧ w = w' := by
  have HB : Hid (bits .xor .u32 (bits .and .u32 (e : Int) (f : Int)) (bits .and .u32 (bits .xor .u32 4294967295 (e : Int)) (g : Int)) = ((ch e f g : Nat) : Int)) := by
    show _ = _
    have e0 : (4294967295 : Int) = ((4294967295 : Nat) : Int) := rfl
    rw [e0, xor32 (by omega) he, and32 he hf, and32 (xl (by omega) he) hg, xor32 (al hf) (al hg)]; rfl
  go_enter Tryd.func38, Tryd.ntmps38
  go_wp2
  go_ret
  exact ⟨congrArg (fun z => Ending.returned (.int .u32 z)) HB.out, rfl⟩

set_option maxRecDepth 1000000 in
set_option maxHeartbeats 400000 in
theorem maj_impl (w : World) (a b c : Nat) (ha : a < 4294967296) (hb : b < 4294967296) (hc : c < 4294967296) : Calls Tryd.prog 40 #[.int .u32 (a : Int), .int .u32 (b : Int), .int .u32 (c : Int)] w fun e' w' => e' = .returned (.int .u32 (maj a b c : Nat)) ∧ w = w' := by
  have HB : Hid (bits .xor .u32 (bits .xor .u32 (bits .and .u32 (a : Int) (b : Int)) (bits .and .u32 (a : Int) (c : Int))) (bits .and .u32 (b : Int) (c : Int)) = ((maj a b c : Nat) : Int)) := by
    show _ = _
    rw [and32 ha hb, and32 ha hc, and32 hb hc, xor32 (al hb) (al hc), xor32 (xl (al hb) (al hc)) (al hc)]; rfl
  go_enter Tryd.func40, Tryd.ntmps40
  go_wp2
  go_ret
  exact ⟨congrArg (fun z => Ending.returned (.int .u32 z)) HB.out, rfl⟩

end Go.Proofs.YtljlcelbhlkmcacDoor.Sha
