package stone

import (
	"slices"

	"copestone/api"
)

const waysToLay = 8

// laid returns where a way takes a point.
func laid(way int) func(Point) Point {
	ways := [waysToLay]func(Point) Point{
		func(p Point) Point { return p },
		func(p Point) Point { return Point{-p.Z, p.X} },
		func(p Point) Point { return Point{-p.X, -p.Z} },
		func(p Point) Point { return Point{p.Z, -p.X} },
		func(p Point) Point { return Point{-p.X, p.Z} },
		func(p Point) Point { return Point{-p.Z, -p.X} },
		func(p Point) Point { return Point{p.X, -p.Z} },
		func(p Point) Point { return Point{p.Z, p.X} },
	}
	return ways[way]
}

// Turned returns the stone laid in a way from 0 to 7.
func Turned(s Stone, way int) (Stone, api.Errno) {
	if e := Check(s); e != api.OK {
		return Stone{}, e
	}
	if !within(way, 0, waysToLay-1) {
		return Stone{}, api.ErrRange
	}
	to := laid(way)
	shape := make(border, 0, len(s.Shape))
	for _, p := range s.Shape {
		shape = append(shape, to(p))
	}
	if way >= waysToLay/2 {
		// A mirror makes the list clockwise.
		slices.Reverse(shape)
	}
	s.Shape, s.Grain = shape.put(), to(s.Grain)
	return s, api.OK
}
