package whole

// V is a pair of ratios: a force, or a place.
type V struct{ X, Z R }

// parts returns the pair of what the operation makes of both parts.
func (a V) parts(b V, operation func(a, b R) R) V {
	return V{operation(a.X, b.X), operation(a.Z, b.Z)}
}

// Add returns a + b.
func (a V) Add(b V) V { return a.parts(b, R.Add) }

// Sub returns a - b.
func (a V) Sub(b V) V { return a.parts(b, R.Sub) }

// Scale returns the pair of the multiples by k.
func (a V) Scale(k R) V { return a.parts(V{k, k}, R.Mul) }

// Dot returns a.X b.X + a.Z b.Z.
func (a V) Dot(b V) R { return a.X.Mul(b.X).Add(a.Z.Mul(b.Z)) }

// Cross returns a.X b.Z - a.Z b.X.
func (a V) Cross(b V) R { return a.X.Mul(b.Z).Sub(a.Z.Mul(b.X)) }

// Same reports whether both parts are equal.
func (a V) Same(b V) bool { return a.X.Cmp(b.X) == 0 && a.Z.Cmp(b.Z) == 0 }

// Text returns the text of the pair.
func (a V) Text() string { return "(" + a.X.Text() + ", " + a.Z.Text() + ")" }
